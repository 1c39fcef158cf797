/- An element among the arguments, opened: its offsets lie there, and each number is one of its kind. -/
import Derived.Test.YtaopdhncapoefaaFr
import Derived.Test.YtaopdhncapoefaaQh
import Derived.Deep.SlicePairs
namespace Go.Proofs.Ytaopdhncapoefaa
open Go.ChangeShapes Go.WideShapes Go.ChangeAt Go.RowKit Go.Deep Go.WideElems
set_option linter.unusedVariables false
set_option maxRecDepth 100000

theorem spots_some_wf {w : World} {b off n : Nat} (h : ∀ i, i < n → ∃ x y : Int, (w.cell? ⟨b, off + i * 2, none⟩ = some (.int .i64 x) ∧ w.cell? ⟨b, off + i * 2 + 1, none⟩ = some (.int .i64 y)) ∧ (Lit.int .i64 x).wf = true ∧ (Lit.int .i64 y).wf = true) :
    ∃ xs : List (Int × Int), xs.length = n ∧ (∀ i, i < n → w.cell? ⟨b, off + i * 2, none⟩ = some (.int .i64 (xs.getD i (0, 0)).1) ∧ w.cell? ⟨b, off + i * 2 + 1, none⟩ = some (.int .i64 (xs.getD i (0, 0)).2)) ∧ (∀ p ∈ xs, (Lit.int .i64 p.1).wf = true ∧ (Lit.int .i64 p.2).wf = true) := by
  induction n with
  | zero => exact ⟨[], rfl, fun i hi => by omega, by simp⟩
  | succ n ih =>
    obtain ⟨xs, hl, hx, hw⟩ := ih (fun i hi => h i (by omega))
    obtain ⟨x, y, ⟨h1, h2⟩, h3⟩ := h n (by omega)
    refine ⟨xs ++ [(x, y)], by simp [hl], fun i hi => ?_, fun p hp => ?_⟩
    · by_cases e : i < n
      · have := hx i e
        rwa [show (xs ++ [(x, y)]).getD i (0, 0) = xs.getD i (0, 0) from by rw [List.getD_eq_getElem?_getD, List.getD_eq_getElem?_getD, List.getElem?_append_left (by omega)]]
      · obtain rfl : i = n := by omega
        rw [show (xs ++ [(x, y)]).getD i (0, 0) = (x, y) from by rw [List.getD_eq_getElem?_getD, List.getElem?_append_right (by omega), hl, Nat.sub_self]; rfl]
        exact ⟨h1, h2⟩
    · rcases List.mem_append.1 hp with e | e
      · exact hw p e
      · rw [List.mem_singleton] at e
        subst e
        exact h3
theorem cellsElL : Try.prog.cellsOf 24 = 1 := by kernel_rfl

set_option maxRecDepth 100000 in
theorem open_elL {H : Type} {enc : TypeId × Value → H} {W : World} {v0 : Value} {y : DataW H × List MemPlace} {fuel : Nat}
    (hf : DataW.trod enc Try.prog W 0 (fun _ => true) true fuel 22 [v0] = some y) : ∃ xs : List (Int × Int), SlA W v0 xs ∧ xs.length ≤ maxLen ∧ (∀ p ∈ xs, (Lit.int .i64 p.1).wf = true ∧ (Lit.int .i64 p.2).wf = true) := by
  obtain ⟨d, p⟩ := y
  rcases open_slice_pairs Try.underlying22 Try.underlying86 (by kernel_rfl) rfl rfl (by kernel_rfl) (by kernel_rfl) hf with ⟨hcs, _⟩ | ⟨a, len, cap, m, n, V0, V1, D0, D1, P0, P1, hcs, _, hl, hm, hmm, _, hx⟩
  · simp at hcs
    subst hcs
    exact ⟨[], Or.inl ⟨none, 0, rfl, rfl⟩, by simp, by simp⟩
  · simp at hcs
    subst hcs
    have hm' : m = cap := by simpa using hmm
    by_cases h0 : len = 0
    · subst h0
      exact ⟨[], Or.inl ⟨_, _, rfl, rfl⟩, by simp, by simp⟩
    · obtain ⟨b, off, spot⟩ := a
      have hc := (hx 0 (by omega)).1
      have hspot : spot = none := by simpa [Addr.add] using World.cell?_spot hc
      subst hspot
      obtain ⟨xs, hlen, hxs, hw⟩ := spots_some_wf (w := W) (b := b) (off := off) (n := len) (fun i hi => by
        obtain ⟨g0, g1, t0, t1⟩ := hx i (by omega)
        obtain ⟨n0, e0, _, w0⟩ := DataW.trod_int Try.underlying2 t0
        obtain ⟨n1, e1, _, w1⟩ := DataW.trod_int Try.underlying2 t1
        simp only [List.cons.injEq, and_true] at e0 e1
        rw [Addr.add_mid] at g0 g1
        exact ⟨n0, n1, ⟨by rw [g0, e0], by rw [Nat.add_assoc, g1, e1]⟩, w0, w1⟩)
      refine ⟨xs, Or.inr ⟨b, off, cap, by rw [hlen], by omega, blk_lt (by simpa [Addr.add] using hc), fun i hi => hxs i (by omega)⟩, by omega, hw⟩

/-- WHAT AN ELEMENT AMONG THE ARGUMENTS IS -/
theorem open_el {H : Type} {enc : TypeId × Value → H} {W : World} {v : Value} {d : DataW H} {p : List MemPlace} {b0 : Nat} {r : Reach} (hv : Value.okWide Try.prog W r b0 24 v)
    (h : DataW.Trod enc Try.prog W 0 (fun _ => true) true 24 v d p) : ∃ (u : Value) (xs : List (Int × Int)), v = .agg #[u] ∧ SlA W u xs ∧ xs.length ≤ maxLen ∧ (∀ p ∈ xs, (Lit.int .i64 p.1).wf = true ∧ (Lit.int .i64 p.2).wf = true) := by
  obtain ⟨u, y, n, rfl, _, _, hy⟩ := open_agg1 Try.underlying24 (by kernel_rfl) cellsElL hv h
  obtain ⟨xs, h1, h2, h3⟩ := open_elL hy
  exact ⟨u, xs, rfl, h1, h2, h3⟩
end Go.Proofs.Ytaopdhncapoefaa
