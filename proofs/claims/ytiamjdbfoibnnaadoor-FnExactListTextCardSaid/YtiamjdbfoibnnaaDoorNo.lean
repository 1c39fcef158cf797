/- A slice of numbers among the arguments, opened. -/
import Derived.Test.YtiamjdbfoibnnaaDoorFo
import Derived.Test.YtiamjdbfoibnnaaDoorNa
import Derived.Deep.Slices
import Derived.Deep.MidRow
namespace Go.Proofs.YtiamjdbfoibnnaaDoor
open Go.ChangeShapes Go.WideShapes Go.ChangeAt Go.RowKit Go.Deep Go.WideElems
set_option linter.unusedVariables false

theorem ints_some {w : World} {b off n : Nat} (h : ∀ i, i < n → ∃ x : Int, w.cell? ⟨b, off + i, none⟩ = some (.int .i64 x)) :
    ∃ ns : List Int, ns.length = n ∧ ∀ i, i < n → w.cell? ⟨b, off + i, none⟩ = some (.int .i64 (ns.getD i 0)) := by
  induction n with
  | zero => exact ⟨[], rfl, fun i hi => by omega⟩
  | succ n ih =>
    obtain ⟨xs, hl, hx⟩ := ih (fun i hi => h i (by omega))
    obtain ⟨x, h1⟩ := h n (by omega)
    refine ⟨xs ++ [x], by simp [hl], fun i hi => ?_⟩
    by_cases e : i < n
    · have := hx i e
      rwa [show (xs ++ [x]).getD i 0 = xs.getD i 0 from by rw [List.getD_eq_getElem?_getD, List.getD_eq_getElem?_getD, List.getElem?_append_left (by omega)]]
    · obtain rfl : i = n := by omega
      rw [show (xs ++ [x]).getD i 0 = x from by rw [List.getD_eq_getElem?_getD, List.getElem?_append_right (by omega), hl, Nat.sub_self]; rfl]
      exact h1

set_option maxRecDepth 100000 in
theorem open_intsL {H : Type} {enc : TypeId × Value → H} {W : World} {v0 : Value} {d : DataW H} {p : List MemPlace} {b0 : Nat} {r : Reach} (hv : Value.okWide Tryd.prog W r b0 24 v0)
    (h : DataW.Trod enc Tryd.prog W 0 (fun _ => true) true 24 v0 d p) : ∃ ns : List Int, SlI W v0 ns ∧ ns.length ≤ maxLen := by
  obtain ⟨a0, l0, c0, rfl⟩ := okWide_slice Tryd.underlying24 hv
  obtain ⟨fuel, hf⟩ := h
  rcases open_slice1 Tryd.underlying24 (by kernel_rfl) hf with ⟨hcs, _⟩ | ⟨a, len, cap, m, n, V, D, Pl, hcs, _, hl, hm, hmm, _, hx⟩
  · simp [Value.cells] at hcs
    obtain ⟨rfl, rfl, rfl⟩ := hcs
    exact ⟨[], Or.inl ⟨none, 0, rfl, rfl⟩, by simp⟩
  · simp [Value.cells] at hcs
    obtain ⟨rfl, rfl, rfl⟩ := hcs
    have hm' : m = c0 := by simpa using hmm
    by_cases h0 : l0 = 0
    · subst h0
      exact ⟨[], Or.inl ⟨_, _, rfl, rfl⟩, by simp⟩
    · obtain ⟨b, off, spot⟩ := a
      have hc := (hx 0 (by omega)).1
      have hspot : spot = none := by simpa [Addr.add] using World.cell?_spot hc
      subst hspot
      have hblk : b < W.heap.size := blk_lt (o := off) (v := V 0) (by simpa [Addr.add] using hc)
      obtain ⟨xs, hlen, hxs⟩ := ints_some (w := W) (b := b) (off := off) (n := l0) (fun i hi => by
        obtain ⟨g0, t0⟩ := hx i (by omega)
        obtain ⟨n0, e0, _, _⟩ := DataW.trod_int Tryd.underlying2 t0
        simp only [List.cons.injEq, and_true] at e0
        rw [Addr.add_mid] at g0
        exact ⟨n0, by rw [g0, e0]⟩)
      refine ⟨xs, Or.inr ⟨b, off, c0, by rw [hlen], by omega, hblk, fun i hi => hxs i (by omega)⟩, by omega⟩
end Go.Proofs.YtiamjdbfoibnnaaDoor
