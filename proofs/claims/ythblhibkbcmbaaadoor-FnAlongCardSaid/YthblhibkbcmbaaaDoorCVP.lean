/- Contracts of single functions, and plain lemmas, on which the exact laws of this seat rest; each holds under the conditions that it states. -/
import Derived.Test.YthblhibkbcmbaaaDoorCVO
namespace Go.Proofs.YthblhibkbcmbaaaDoor
set_option linter.unusedVariables false
set_option linter.unusedSimpArgs false
open Go.RowKit
attribute [local go_sem] Oper.semAt_some

/-! ### the intervals, as the specification makes them -/
def ivL (f : Nat → Bool) : Nat → List (List Int)
  | 0 => []
  | k + 1 => if f k = true then (if 0 < k ∧ f (k - 1) = true then updP (ivL f k) (k : Int) else addP (ivL f k) (k : Int)) else ivL f k
theorem ivL_no {f : Nat → Bool} {k : Nat} (h : f k = false) : ivL f (k + 1) = ivL f k := by
  show (if f k = true then _ else ivL f k) = _
  rw [if_neg (by rw [h]; decide)]
theorem ivL_upd {f : Nat → Bool} {k : Nat} (h : f k = true) (h0 : 0 < k) (h1 : f (k - 1) = true) : ivL f (k + 1) = updP (ivL f k) (k : Int) := by
  show (if f k = true then (if 0 < k ∧ f (k - 1) = true then _ else _) else ivL f k) = _
  rw [if_pos h, if_pos ⟨h0, h1⟩]
theorem ivL_add {f : Nat → Bool} {k : Nat} (h : f k = true) (h1 : ¬ (0 < k ∧ f (k - 1) = true)) : ivL f (k + 1) = addP (ivL f k) (k : Int) := by
  show (if f k = true then (if 0 < k ∧ f (k - 1) = true then _ else _) else ivL f k) = _
  rw [if_pos h, if_neg h1]
theorem ivL_two (f : Nat → Bool) : ∀ k, TwoP (ivL f k)
  | 0 => fun i hi => absurd hi (Nat.not_lt_zero i)
  | k + 1 => by
    show TwoP (if f k = true then (if 0 < k ∧ f (k - 1) = true then _ else _) else ivL f k)
    split
    · split
      · exact two_upd (ivL_two f k) _
      · exact two_add (ivL_two f k) _
    · exact ivL_two f k
theorem ivL_len (f : Nat → Bool) : ∀ k, (ivL f k).length ≤ k
  | 0 => Nat.le_refl _
  | k + 1 => by
    have := ivL_len f k
    show List.length (if f k = true then (if 0 < k ∧ f (k - 1) = true then _ else _) else ivL f k) ≤ _
    split
    · split
      · rw [updP_len]; omega
      · rw [addP_len]; omega
    · omega
theorem ivL_pos {f : Nat → Bool} {k : Nat} (h : f k = true) : 0 < (ivL f (k + 1)).length := by
  show 0 < List.length (if f k = true then (if 0 < k ∧ f (k - 1) = true then _ else _) else ivL f k)
  rw [if_pos h]
  split
  · rename_i hh
    rw [updP_len]
    obtain ⟨j, rfl⟩ : ∃ j, k = j + 1 := ⟨k - 1, by omega⟩
    exact ivL_pos (by simpa using hh.2)
  · rw [addP_len]; omega
/-- parts of a longer list -/
theorem ptL_pre (ix : List Int) (x : Int) (gap : Int) : ∀ k, k ≤ ix.length → ptL (ix ++ [x]) gap k = ptL ix gap k
  | 0, _ => rfl
  | k + 1, hk => by
    have e1 : (ix ++ [x]).getD k 0 = ix.getD k 0 := by rw [List.getD_eq_getElem?_getD, List.getElem?_append_left (by omega), ← List.getD_eq_getElem?_getD]
    have e2 : (ix ++ [x]).getD (k - 1) 0 = ix.getD (k - 1) 0 := by rw [List.getD_eq_getElem?_getD, List.getElem?_append_left (by omega), ← List.getD_eq_getElem?_getD]
    rw [ptL_succ, ptL_succ, ptL_pre ix x gap k (by omega)]
    unfold ptN
    rw [e1, e2]
theorem ixsV_lt (f : Nat → Bool) (k i : Nat) (hi : i < (ixsV f k).length) : (ixsV f k).getD i 0 < (k : Int) := by
  obtain ⟨j, h1, h2, _⟩ := ixs_at hi
  rw [h1]
  omega
/-- both sides tell the same intervals -/
theorem iv_eq (f : Nat → Bool) : ∀ k, ptL (ixsV f k) 1 (ixsV f k).length = ivL f k
  | 0 => rfl
  | k + 1 => by
    have ih := iv_eq f k
    cases h : f k with
    | false => rw [ixsV_no h, ivL_no h, ih]
    | true =>
      have ex := ixsV_yes h
      have el : (ixsV f (k + 1)).length = (ixsV f k).length + 1 := by rw [ex]; simp
      rw [el, ex, ptL_succ, ptL_pre _ _ _ _ (Nat.le_refl _), ih]
      have e1 : (ixsV f k ++ [(k : Int)]).getD (ixsV f k).length 0 = (k : Int) := by simp [List.getD_eq_getElem?_getD]
      rw [e1]
      by_cases hu : 0 < k ∧ f (k - 1) = true
      · obtain ⟨j, rfl⟩ : ∃ j, k = j + 1 := ⟨k - 1, by omega⟩
        have hj : f j = true := by simpa using hu.2
        rw [ivL_upd h hu.1 hu.2]
        have ey := ixsV_yes hj
        have hn : ptN (ixsV f (j + 1) ++ [((j + 1 : Nat) : Int)]) 1 (ixsV f (j + 1)).length = false := by
          have hl : (ixsV f (j + 1)).length = (ixsV f j).length + 1 := by rw [ey]; simp
          have e3 : (ixsV f (j + 1) ++ [((j + 1 : Nat) : Int)]).getD ((ixsV f (j + 1)).length - 1) 0 = (j : Int) := by
            rw [hl, Nat.add_sub_cancel, ey]
            simp [List.getD_eq_getElem?_getD, List.getElem?_append]
          unfold ptN
          rw [e1, e3, decide_eq_false (by omega), decide_eq_false (by omega)]
          rfl
        rw [if_neg (by rw [hn]; decide)]
      · rw [ivL_add h hu]
        have hn : ptN (ixsV f k ++ [(k : Int)]) 1 (ixsV f k).length = true := by
          unfold ptN
          by_cases hz : (ixsV f k).length = 0
          · rw [decide_eq_true hz]; rfl
          · have hk0 : 0 < k := by
              rcases Nat.eq_zero_or_pos k with e | e
              · subst e; exact absurd rfl hz
              · exact e
            obtain ⟨j, rfl⟩ : ∃ j, k = j + 1 := ⟨k - 1, by omega⟩
            have hj : f j = false := by
              cases hh : f j with
              | false => rfl
              | true => exact absurd ⟨hk0, by simpa using hh⟩ hu
            have e4 : (ixsV f (j + 1) ++ [((j + 1 : Nat) : Int)]).getD ((ixsV f (j + 1)).length - 1) 0 = (ixsV f (j + 1)).getD ((ixsV f (j + 1)).length - 1) 0 := by
              rw [List.getD_eq_getElem?_getD, List.getElem?_append_left (by omega), ← List.getD_eq_getElem?_getD]
            have e5 : (ixsV f (j + 1)).getD ((ixsV f (j + 1)).length - 1) 0 < (j : Int) := by
              rw [ixsV_no hj] at hz ⊢
              exact ixsV_lt f j _ (by omega)
            rw [e1, e4, decide_eq_true (show (1 : Int) < ((j + 1 : Nat) : Int) - (ixsV f (j + 1)).getD ((ixsV f (j + 1)).length - 1) 0 by omega), Bool.or_true]
        rw [if_pos hn]

/-- rows of the call's own -/
def TookRR (xss : List (List Int)) (w : World) (e : Ending) (w' : World) : Prop := ∃ v us, e = .returned v ∧ OwnL w' w.heap.size w'.heap.size v us xss ∧ Below w.heap.size w w'
theorem OwnL.lit0 (w : World) (lo : Nat) (hlo : lo ≤ w.heap.size) : OwnL (w.alloc (.cells #[] 26)) lo (w.alloc (.cells #[] 26)).heap.size (.slice (some ⟨w.heap.size, 0, none⟩) 0 0) (fun _ => .slice none 0 0) [] :=
  ⟨World.ownsRow_lit (base := lo) (e := 26) (size := 1) w #[] 0 hlo (by unfold maxLen; omega) rfl, fun i h => absurd h (Nat.not_lt_zero i), fun i h => absurd h (Nat.not_lt_zero i), fun k e => by
    have : w.heap.size = k := by simpa [Value.ownBlock] using e
    simp
    omega, fun i j h => absurd h (Nat.not_lt_zero i)⟩

end Go.Proofs.YthblhibkbcmbaaaDoor
