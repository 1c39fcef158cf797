/- A slice of bytes among the arguments, opened. -/
import Derived.Test.YtabkkpifkkgpeaaDoorFr
import Derived.Test.YtabkkpifkkgpeaaDoorBY
import Derived.Deep.Slices
import Derived.Deep.MidRow
namespace Go.Proofs.YtabkkpifkkgpeaaDoor
open Go.ChangeShapes Go.WideShapes Go.ChangeAt Go.RowKit Go.Deep Go.WideElems
set_option linter.unusedVariables false
set_option linter.unusedSimpArgs false

theorem bytes_some {w : World} {b off n : Nat} (h : ∀ i, i < n → ∃ x : Nat, x < 256 ∧ w.cell? ⟨b, off + i, none⟩ = some (.int .u8 (x : Int))) :
    ∃ ns : List Nat, ns.length = n ∧ (∀ i, ns.getD i 0 < 256) ∧ ∀ i, i < n → w.cell? ⟨b, off + i, none⟩ = some (.int .u8 ((ns.getD i 0 : Nat) : Int)) := by
  induction n with
  | zero => exact ⟨[], rfl, fun i => by simp, fun i hi => by omega⟩
  | succ n ih =>
    obtain ⟨xs, hl, hb, hx⟩ := ih (fun i hi => h i (by omega))
    obtain ⟨x, hx1, h1⟩ := h n (by omega)
    have hg : ∀ i, (xs ++ [x]).getD i 0 = if i < n then xs.getD i 0 else if i = n then x else 0 := fun i => by
      rw [List.getD_eq_getElem?_getD, List.getD_eq_getElem?_getD]
      by_cases e : i < n
      · rw [if_pos e, List.getElem?_append_left (by omega)]
      · rw [if_neg e, List.getElem?_append_right (by omega), hl]
        by_cases e2 : i = n
        · rw [if_pos e2, e2, Nat.sub_self]; rfl
        · rw [if_neg e2]
          obtain ⟨k, hk⟩ : ∃ k, i - n = k + 1 := ⟨i - n - 1, by omega⟩
          rw [hk]; rfl
    refine ⟨xs ++ [x], by simp [hl], fun i => ?_, fun i hi => ?_⟩
    · rw [hg]
      by_cases e : i < n
      · rw [if_pos e]; exact hb i
      · rw [if_neg e]
        by_cases e2 : i = n
        · rw [if_pos e2]; exact hx1
        · rw [if_neg e2]; decide
    · rw [hg]
      by_cases e : i < n
      · rw [if_pos e]; exact hx i e
      · obtain rfl : i = n := by omega
        rw [if_neg e, if_pos rfl]
        exact h1

set_option maxRecDepth 100000 in
theorem open_bytesY {H : Type} {enc : TypeId × Value → H} {W : World} {v0 : Value} {d : DataW H} {p : List MemPlace} {b0 : Nat} {r : Reach} (hv : Value.okWide Tryd.prog W r b0 22 v0)
    (h : DataW.Trod enc Tryd.prog W 0 (fun _ => true) true 22 v0 d p) : ∃ ns : List Nat, SlY W v0 ns ∧ ns.length ≤ maxLen ∧ ∀ i, ns.getD i 0 < 256 := by
  obtain ⟨a0, l0, c0, rfl⟩ := okWide_slice Tryd.underlying22 hv
  obtain ⟨fuel, hf⟩ := h
  rcases open_slice1 Tryd.underlying22 (by kernel_rfl) hf with ⟨hcs, _⟩ | ⟨a, len, cap, m, n, V, D, Pl, hcs, _, hl, hm, hmm, _, hx⟩
  · simp [Value.cells] at hcs
    obtain ⟨rfl, rfl, rfl⟩ := hcs
    exact ⟨[], Or.inl ⟨none, 0, rfl, rfl⟩, by simp, fun i => by simp⟩
  · simp [Value.cells] at hcs
    obtain ⟨rfl, rfl, rfl⟩ := hcs
    have hm' : m = c0 := by simpa using hmm
    by_cases h0 : l0 = 0
    · subst h0
      exact ⟨[], Or.inl ⟨_, _, rfl, rfl⟩, by simp, fun i => by simp⟩
    · obtain ⟨b, off, spot⟩ := a
      have hc := (hx 0 (by omega)).1
      have hspot : spot = none := by simpa [Addr.add] using World.cell?_spot hc
      subst hspot
      have hblk : b < W.heap.size := blk_lt (o := off) (v := V 0) (by simpa [Addr.add] using hc)
      obtain ⟨xs, hlen, hb, hxs⟩ := bytes_some (w := W) (b := b) (off := off) (n := l0) (fun i hi => by
        obtain ⟨g0, t0⟩ := hx i (by omega)
        obtain ⟨n0, e0, _, hwf⟩ := DataW.trod_int Tryd.underlying5 t0
        simp only [List.cons.injEq, and_true] at e0
        rw [Addr.add_mid] at g0
        have hw2 : 0 ≤ n0 ∧ n0 < 256 := by
          simp only [Lit.wf, IntKind.min, IntKind.max, IntKind.signed, IntKind.bits, Bool.and_eq_true, decide_eq_true_eq] at hwf
          simp at hwf
          omega
        exact ⟨n0.toNat, by omega, by rw [g0, e0, Int.toNat_of_nonneg hw2.1]⟩)
      refine ⟨xs, Or.inr ⟨b, off, c0, by rw [hlen], by omega, hblk, fun i hi => hxs i (by omega)⟩, by omega, hb⟩
end Go.Proofs.YtabkkpifkkgpeaaDoor
