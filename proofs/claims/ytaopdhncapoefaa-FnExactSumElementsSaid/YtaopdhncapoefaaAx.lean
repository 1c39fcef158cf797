/- Contracts of single functions, and plain lemmas, on which the exact laws of this seat rest; each holds under the conditions that it states. -/
import Derived.Test.YtaopdhncapoefaaAh
namespace Go.Proofs.Ytaopdhncapoefaa
set_option linter.unusedVariables false
set_option linter.unusedSimpArgs false
open Go.RowKit

/-! ### lists in order with the same members as another list -/
theorem srt_nodup {l : List (Int × Int)} (h : Srt l) : l.Nodup := by
  unfold Srt at h
  exact h.imp (fun {a b} hab e => by subst e; exact bef_irr _ hab)
theorem mem_take_succ {S : List (Int × Int)} {k : Nat} (hk : k < S.length) (q : Int × Int) : q ∈ S.take (k + 1) ↔ (q ∈ S.take k ∨ q = S.getD k (0, 0)) := by
  rw [List.take_add_one, List.getElem?_eq_getElem hk, getD_of_lt hk, List.mem_append, Option.toList_some, List.mem_singleton]
/-- how many different ones there are is how long the list in order is -/
theorem dC_card (S : List (Int × Int)) : ∀ (k : Nat), k ≤ S.length → ∀ T, Srt T → (∀ q, q ∈ T ↔ q ∈ S.take k) → T.length = dC S k
  | 0, _, T, _, hm => by
    cases T with
    | nil => rfl
    | cons a l => exact absurd ((hm a).1 (List.mem_cons_self ..)) (by simp)
  | k + 1, hk, T, hs, hm => by
    simp only [dC]
    by_cases h : S.getD k (0, 0) ∈ S.take k
    · rw [if_pos h]
      refine dC_card S k (by omega) T hs fun q => ?_
      rw [hm q, mem_take_succ (by omega)]
      constructor
      · rintro (e | e)
        · exact e
        · rw [e]; exact h
      · exact Or.inl
    · rw [if_neg h]
      have hp : S.getD k (0, 0) ∈ T := (hm _).2 ((mem_take_succ (by omega) _).2 (Or.inr rfl))
      have hn := srt_nodup hs
      have hs' : Srt (T.erase (S.getD k (0, 0))) := by unfold Srt at hs ⊢; exact hs.sublist List.erase_sublist
      have ih := dC_card S k (by omega) _ hs' fun q => by
        rw [hn.mem_erase_iff, hm q, mem_take_succ (by omega)]
        constructor
        · rintro ⟨h1, h2 | h2⟩
          · exact h2
          · exact absurd h2 h1
        · intro h1
          exact ⟨fun e => h (by rw [← e]; exact h1), Or.inl h1⟩
      have hl := List.length_erase_of_mem hp
      have : 0 < T.length := List.length_pos_of_mem hp
      omega
/-- what element reckons of a set, told of the list in order -/
theorem set_valid {S T : List (Int × Int)} (hs : Srt T) (hm : ∀ q, q ∈ T ↔ q ∈ S) :
    ((elL (memB S)).length = dC S S.length ∧ 1 ≤ dC S S.length ∧ dC S S.length ≤ 50 → elB T = true ∧ elL (memB S) = T) ∧ (¬ ((elL (memB S)).length = dC S S.length ∧ 1 ≤ dC S S.length ∧ dC S S.length ≤ 50) → elB T = false) := by
  have hd := dC_card S S.length (Nat.le_refl _) T hs (fun q => by rw [hm q, List.take_length])
  rw [← hd]
  have hE : elL (memB S) = T.filter okO := by
    refine srt_eq (elL_srt _) (by unfold Srt at hs ⊢; exact hs.filter _) fun q => ?_
    rw [elL_mem, List.mem_filter, okO_iff, hm q]
    unfold memB
    rw [decide_eq_true_iff]
    exact And.comm
  have hall : (T.filter okO).length = T.length ↔ ∀ p ∈ T, okO p = true := List.length_filter_eq_length_iff
  constructor
  · rintro ⟨h1, h2, h3⟩
    rw [hE] at h1
    have ha := hall.1 h1
    refine ⟨?_, ?_⟩
    · rw [elB_good (steps_of_srt hs ha), decide_eq_true h2, decide_eq_true h3]; rfl
    · rw [hE]; exact List.filter_eq_self.2 ha
  · intro h
    by_cases ha : ∀ p ∈ T, okO p = true
    · rw [elB_good (steps_of_srt hs ha)]
      by_cases h2 : 1 ≤ T.length
      · rw [decide_eq_false (fun h3 => h ⟨by rw [hE]; exact hall.2 ha, h2, h3⟩), Bool.and_false]
      · rw [decide_eq_false h2, Bool.false_and]
    · obtain ⟨p, hp⟩ := Classical.not_forall.1 ha
      have hpT : p ∈ T := Classical.byContradiction fun e => hp (fun h' => absurd h' e)
      have hpo : okO p = false := by
        cases e : okO p with
        | false => rfl
        | true => exact absurd (fun _ => e) hp
      obtain ⟨i, hi, e⟩ := List.mem_iff_getElem.1 hpT
      refine elB_bad hi ?_
      unfold stepOk
      rw [getD_of_lt hi, e, hpo, Bool.false_and]
/-- the sums, one row after another -/
def sumL (xs ys : List (Int × Int)) : List (Int × Int) := (List.range (xs.length * ys.length)).map fun t => ((xs.getD (t / ys.length) (0, 0)).1 + (ys.getD (t % ys.length) (0, 0)).1, (xs.getD (t / ys.length) (0, 0)).2 + (ys.getD (t % ys.length) (0, 0)).2)
theorem sumL_len (xs ys : List (Int × Int)) : (sumL xs ys).length = xs.length * ys.length := by simp [sumL]
theorem sumL_at (xs ys : List (Int × Int)) {i k : Nat} (hi : i < xs.length) (hk : k < ys.length) : (sumL xs ys).getD (i * ys.length + k) (0, 0) = ((xs.getD i (0, 0)).1 + (ys.getD k (0, 0)).1, (xs.getD i (0, 0)).2 + (ys.getD k (0, 0)).2) := by
  have h1 : (i * ys.length + k) / ys.length = i := by rw [Nat.mul_comm, Nat.mul_add_div (by omega), Nat.div_eq_of_lt hk, Nat.add_zero]
  have h2 : (i * ys.length + k) % ys.length = k := by rw [Nat.mul_comm, Nat.mul_add_mod, Nat.mod_eq_of_lt hk]
  have h3 : i * ys.length + k < xs.length * ys.length := by
    have : (i + 1) * ys.length ≤ xs.length * ys.length := Nat.mul_le_mul hi (Nat.le_refl _)
    rw [Nat.add_mul, Nat.one_mul] at this
    omega
  unfold sumL
  rw [List.getD_eq_getElem?_getD, List.getElem?_map, List.getElem?_range h3]
  simp only [Option.map_some, Option.getD_some, h1, h2]
end Go.Proofs.Ytaopdhncapoefaa
