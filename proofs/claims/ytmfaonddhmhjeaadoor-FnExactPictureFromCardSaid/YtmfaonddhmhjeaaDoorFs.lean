/- A slice of spots among the arguments, opened. -/
import Derived.Test.YtmfaonddhmhjeaaDoorFr
import Derived.Test.YtmfaonddhmhjeaaDoorQh
import Derived.Deep.SlicePairs
namespace Go.Proofs.YtmfaonddhmhjeaaDoor
open Go.ChangeShapes Go.WideShapes Go.ChangeAt Go.RowKit Go.Deep Go.WideElems
set_option linter.unusedVariables false

theorem spots_some {w : World} {b off n : Nat} (h : ∀ i, i < n → ∃ x y : Int, w.cell? ⟨b, off + i * 2, none⟩ = some (.int .i64 x) ∧ w.cell? ⟨b, off + i * 2 + 1, none⟩ = some (.int .i64 y)) :
    ∃ xs : List (Int × Int), xs.length = n ∧ ∀ i, i < n → w.cell? ⟨b, off + i * 2, none⟩ = some (.int .i64 (xs.getD i (0, 0)).1) ∧ w.cell? ⟨b, off + i * 2 + 1, none⟩ = some (.int .i64 (xs.getD i (0, 0)).2) := by
  induction n with
  | zero => exact ⟨[], rfl, fun i hi => by omega⟩
  | succ n ih =>
    obtain ⟨xs, hl, hx⟩ := ih (fun i hi => h i (by omega))
    obtain ⟨x, y, h1, h2⟩ := h n (by omega)
    refine ⟨xs ++ [(x, y)], by simp [hl], fun i hi => ?_⟩
    by_cases e : i < n
    · have := hx i e
      rwa [show (xs ++ [(x, y)]).getD i (0, 0) = xs.getD i (0, 0) from by rw [List.getD_eq_getElem?_getD, List.getD_eq_getElem?_getD, List.getElem?_append_left (by omega)]]
    · obtain rfl : i = n := by omega
      rw [show (xs ++ [(x, y)]).getD i (0, 0) = (x, y) from by rw [List.getD_eq_getElem?_getD, List.getElem?_append_right (by omega), hl, Nat.sub_self]; rfl]
      exact ⟨h1, h2⟩

set_option maxRecDepth 100000 in
theorem open_spots {H : Type} {enc : TypeId × Value → H} {W : World} {v0 : Value} {d : DataW H} {p : List MemPlace} {b0 : Nat} {r : Reach} (hv : Value.okWide Tryd.prog W r b0 22 v0)
    (h : DataW.Trod enc Tryd.prog W 0 (fun _ => true) true 22 v0 d p) : ∃ xs : List (Int × Int), SlA W v0 xs ∧ xs.length ≤ maxLen := by
  obtain ⟨a0, l0, c0, rfl⟩ := okWide_slice Tryd.underlying22 hv
  obtain ⟨fuel, hf⟩ := h
  rcases open_slice_pairs Tryd.underlying22 Tryd.underlying38 (by kernel_rfl) rfl rfl (by kernel_rfl) (by kernel_rfl) hf with ⟨hcs, _⟩ | ⟨a, len, cap, m, n, V0, V1, D0, D1, P0, P1, hcs, _, hl, hm, hmm, _, hx⟩
  · simp [Value.cells] at hcs
    obtain ⟨rfl, rfl, rfl⟩ := hcs
    exact ⟨[], Or.inl ⟨none, 0, rfl, rfl⟩, by simp⟩
  · simp [Value.cells] at hcs
    obtain ⟨rfl, rfl, rfl⟩ := hcs
    have hm' : m = c0 := by simpa using hmm
    by_cases h0 : l0 = 0
    · subst h0
      exact ⟨[], Or.inl ⟨_, _, rfl, rfl⟩, by simp⟩
    · obtain ⟨b, off, spot⟩ := a
      have hc := (hx 0 (by omega)).1
      have hspot : spot = none := by simpa [Addr.add] using World.cell?_spot hc
      subst hspot
      obtain ⟨xs, hlen, hxs⟩ := spots_some (w := W) (b := b) (off := off) (n := l0) (fun i hi => by
        obtain ⟨g0, g1, t0, t1⟩ := hx i (by omega)
        obtain ⟨n0, e0, _, _⟩ := DataW.trod_int Tryd.underlying2 t0
        obtain ⟨n1, e1, _, _⟩ := DataW.trod_int Tryd.underlying2 t1
        simp only [List.cons.injEq, and_true] at e0 e1
        rw [Addr.add_mid] at g0 g1
        exact ⟨n0, n1, by rw [g0, e0], by rw [Nat.add_assoc, g1, e1]⟩)
      refine ⟨xs, Or.inr ⟨b, off, c0, by rw [hlen], by omega, blk_lt (by simpa [Addr.add] using hc), fun i hi => hxs i (by omega)⟩, by omega⟩
end Go.Proofs.YtmfaonddhmhjeaaDoor
