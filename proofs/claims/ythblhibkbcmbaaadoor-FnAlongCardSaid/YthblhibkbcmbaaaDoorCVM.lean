/- Contracts of single functions, and plain lemmas, on which the exact laws of this seat rest; each holds under the conditions that it states. -/
import Derived.Test.YthblhibkbcmbaaaDoorCVK
import Derived.Test.YthblhibkbcmbaaaDoorDB
import Derived.Test.YthblhibkbcmbaaaDoorCVE
namespace Go.Proofs.YthblhibkbcmbaaaDoor
set_option linter.unusedVariables false
set_option linter.unusedSimpArgs false
open Go.RowKit
attribute [local go_sem] Oper.semAt_some

def BsR (ns : List Int) (t : Int) (w : World) (e : Ending) (w' : World) : Prop := ∃ (p : Nat) (fd : Bool), p ≤ ns.length ∧ (∀ q, q < p → ns.getD q 0 < t) ∧ (∀ q, p ≤ q → q < ns.length → t ≤ ns.getD q 0) ∧ e = .returned (.tuple #[.int .i64 (p : Int), .bool fd]) ∧ w = w'
end Go.Proofs.YthblhibkbcmbaaaDoor

/- Contracts of single functions, and plain lemmas, on which the exact laws of this seat rest; each holds under the conditions that it states. -/
namespace Go.Proofs.YthblhibkbcmbaaaDoor
set_option linter.unusedVariables false
set_option linter.unusedSimpArgs false
open Go.RowKit
attribute [local go_sem] Oper.semAt_some

/-! ### the first index that is great enough -/
theorem ixs_sorted (f : Nat → Bool) (N : Nat) : ∀ a b, a ≤ b → b < (ixsV f N).length → (ixsV f N).getD a 0 ≤ (ixsV f N).getD b 0 := by
  intro a b hab hb
  have hp : List.Pairwise (· < ·) ((List.range N).filter f) := List.Pairwise.filter _ List.pairwise_lt_range
  unfold ixsV at hb ⊢
  rw [List.length_map] at hb
  have ha : a < ((List.range N).filter f).length := by omega
  rw [List.getD_eq_getElem?_getD, List.getD_eq_getElem?_getD, List.getElem?_map, List.getElem?_map, List.getElem?_eq_getElem ha, List.getElem?_eq_getElem hb]
  simp only [Option.map_some, Option.getD_some]
  by_cases e : a = b
  · subst e; exact Int.le_refl _
  · have := List.pairwise_iff_getElem.1 hp a b ha hb (by omega)
    omega
theorem ixs_at {f : Nat → Bool} {N p : Nat} (h : p < (ixsV f N).length) : ∃ i : Nat, (ixsV f N).getD p 0 = (i : Int) ∧ i < N ∧ f i = true := by
  unfold ixsV at h ⊢
  rw [List.length_map] at h
  refine ⟨((List.range N).filter f)[p], ?_, ?_⟩
  · rw [List.getD_eq_getElem?_getD, List.getElem?_map, List.getElem?_eq_getElem h]
    rfl
  · have := List.getElem_mem h
    rw [List.mem_filter, List.mem_range] at this
    exact this
theorem ixs_has {f : Nat → Bool} {N j : Nat} (hj : j < N) (hf : f j = true) : ∃ q, q < (ixsV f N).length ∧ (ixsV f N).getD q 0 = (j : Int) := by
  have hm : j ∈ (List.range N).filter f := by rw [List.mem_filter, List.mem_range]; exact ⟨hj, hf⟩
  obtain ⟨q, hq, he⟩ := List.getElem_of_mem hm
  refine ⟨q, by unfold ixsV; rw [List.length_map]; exact hq, ?_⟩
  unfold ixsV
  rw [List.getD_eq_getElem?_getD, List.getElem?_map, List.getElem?_eq_getElem hq, he]
  rfl
theorem next_some {f : Nat → Bool} {N s p : Nat} (hp : p < (ixsV f N).length) (hA : ∀ q, q < p → (ixsV f N).getD q 0 < (s : Int)) (hB : ∀ q, p ≤ q → q < (ixsV f N).length → (s : Int) ≤ (ixsV f N).getD q 0) : ∃ i : Nat, (ixsV f N).getD p 0 = (i : Int) ∧ nxO f N s = some i := by
  obtain ⟨i, h1, h2, h3⟩ := ixs_at hp
  refine ⟨i, h1, nxO_some h2 ?_ h3 fun j hj1 hj2 => ?_⟩
  · have := hB p (Nat.le_refl _) hp
    rw [h1] at this
    omega
  · cases hf : f j with
    | false => rfl
    | true =>
      obtain ⟨q, hq1, hq2⟩ := ixs_has (by omega : j < N) hf
      by_cases hqp : q < p
      · have := hA q hqp
        rw [hq2] at this
        omega
      · have := ixs_sorted f N p q (by omega) hq1
        rw [h1, hq2] at this
        omega
theorem next_none {f : Nat → Bool} {N s : Nat} (hA : ∀ q, q < (ixsV f N).length → (ixsV f N).getD q 0 < (s : Int)) : nxO f N s = none := by
  refine nxO_none fun j hj1 hj2 => ?_
  cases hf : f j with
  | false => rfl
  | true =>
    obtain ⟨q, hq1, hq2⟩ := ixs_has hj2 hf
    have := hA q hq1
    rw [hq2] at this
    omega

/-- the arguments in variables -/
def At5 (W : World) (pc pn pi pf pt : Nat) (c n i ax ay bx b_y : Int) : Prop :=
  W.cell? ⟨pc, 0, none⟩ = some (.int .i64 c) ∧ W.cell? ⟨pn, 0, none⟩ = some (.int .i64 n) ∧ W.cell? ⟨pi, 0, none⟩ = some (.int .i64 i) ∧ W.cell? ⟨pf, 0, none⟩ = some (.int .i64 ax) ∧ W.cell? ⟨pf, 1, none⟩ = some (.int .i64 ay) ∧ W.cell? ⟨pt, 0, none⟩ = some (.int .i64 bx) ∧ W.cell? ⟨pt, 1, none⟩ = some (.int .i64 b_y)
theorem At5.kept {w W : World} {pc pn pi pf pt : Nat} {c n i ax ay bx b_y : Int} (h : At5 w pc pn pi pf pt c n i ax ay bx b_y) (hb : Below w.heap.size w W) : At5 W pc pn pi pf pt c n i ax ay bx b_y :=
  ⟨cell_kept hb h.1, cell_kept hb h.2.1, cell_kept hb h.2.2.1, cell_kept hb h.2.2.2.1, cell_kept hb h.2.2.2.2.1, cell_kept hb h.2.2.2.2.2.1, cell_kept hb h.2.2.2.2.2.2⟩
theorem nb_len {c n : Int} (ht : (inB c 0 3 && inB n 0 4) = true) : (cvF c.toNat n.toNat).length = 2 ^ n.toNat * 2 ^ n.toNat ∧ (((2 ^ n.toNat * 2 ^ n.toNat : Nat)) : Int) = sd n * sd n ∧ 2 ^ n.toNat * 2 ^ n.toNat ≤ 256 := by
  obtain ⟨c', n', rfl, rfl, h1, h2⟩ := tour_nat ht
  simp only [Int.toNat_natCast]
  exact ⟨cvF_len _ _, (sd_sq n').symm, Nat.mul_le_mul (pow_le16 h2) (pow_le16 h2)⟩
theorem len_int {c n : Int} (ht : (inB c 0 3 && inB n 0 4) = true) (W : World) : Calls Tryd.prog 74 #[.agg #[.int .i64 c, .int .i64 n]] W (fun e w' => e = .returned (.int .i64 (sd n * sd n)) ∧ Below W.heap.size W w') := by
  obtain ⟨c', n', rfl, rfl, h1, h2⟩ := tour_nat ht
  rw [sd_sq]
  exact length_any c' n' W h2

end Go.Proofs.YthblhibkbcmbaaaDoor
