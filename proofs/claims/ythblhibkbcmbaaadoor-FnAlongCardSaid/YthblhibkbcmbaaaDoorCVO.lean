/- Contracts of single functions, and plain lemmas, on which the exact laws of this seat rest; each holds under the conditions that it states. -/
import Derived.Test.YthblhibkbcmbaaaDoorCVM
import Derived.Test.YthblhibkbcmbaaaDoorD3
import Derived.Test.YthblhibkbcmbaaaDoorV5
namespace Go.Proofs.YthblhibkbcmbaaaDoor
set_option linter.unusedVariables false
set_option linter.unusedSimpArgs false
open Go.RowKit
attribute [local go_sem] Oper.semAt_some

/-! ### parts of indices -/
def addP (P : List (List Int)) (x : Int) : List (List Int) := P ++ [[x, x]]
def updP (P : List (List Int)) (x : Int) : List (List Int) := P.set (P.length - 1) [(P.getD (P.length - 1) []).getD 0 0, x]
theorem updP_len (P : List (List Int)) (x : Int) : (updP P x).length = P.length := by simp [updP]
theorem addP_len (P : List (List Int)) (x : Int) : (addP P x).length = P.length + 1 := by simp [addP]
/-- each part has two numbers -/
def TwoP (P : List (List Int)) : Prop := ∀ i, i < P.length → (P.getD i []).length = 2
theorem two_add {P : List (List Int)} (h : TwoP P) (x : Int) : TwoP (addP P x) := fun i hi => by
  rw [addP_len] at hi
  unfold addP
  rw [List.getD_eq_getElem?_getD]
  by_cases e : i = P.length
  · subst e; simp
  · rw [List.getElem?_append_left (by omega), ← List.getD_eq_getElem?_getD]
    exact h i (by omega)
theorem two_upd {P : List (List Int)} (h : TwoP P) (x : Int) : TwoP (updP P x) := fun i hi => by
  rw [updP_len] at hi
  unfold updP
  rw [List.getD_eq_getElem?_getD, List.getElem?_set]
  by_cases e : P.length - 1 = i
  · rw [if_pos e, if_pos (by omega)]; rfl
  · rw [if_neg e, ← List.getD_eq_getElem?_getD]
    exact h i hi
theorem upd_add (P : List (List Int)) (x : Int) : updP (addP P x) x = addP P x := by
  unfold updP addP
  apply List.ext_getElem?
  intro i
  rw [List.getElem?_set]
  simp only [List.length_append, List.length_cons, List.length_nil, Nat.zero_add, Nat.add_sub_cancel]
  by_cases e : P.length = i
  · subst e
    simp
  · rw [if_neg e]
def ptN (ix : List Int) (gap : Int) (k : Nat) : Bool := decide (k = 0) || decide (gap < ix.getD k 0 - ix.getD (k - 1) 0)
def ptL (ix : List Int) (gap : Int) : Nat → List (List Int)
  | 0 => []
  | k + 1 => if ptN ix gap k = true then addP (ptL ix gap k) (ix.getD k 0) else updP (ptL ix gap k) (ix.getD k 0)
theorem ptL_succ (ix : List Int) (gap : Int) (k : Nat) : ptL ix gap (k + 1) = if ptN ix gap k = true then addP (ptL ix gap k) (ix.getD k 0) else updP (ptL ix gap k) (ix.getD k 0) := rfl
theorem ptL_two (ix : List Int) (gap : Int) : ∀ k, TwoP (ptL ix gap k)
  | 0 => fun i hi => absurd hi (Nat.not_lt_zero i)
  | k + 1 => by
    rw [ptL_succ]
    split
    · exact two_add (ptL_two ix gap k) _
    · exact two_upd (ptL_two ix gap k) _
theorem ptL_len (ix : List Int) (gap : Int) : ∀ k, (ptL ix gap k).length ≤ k
  | 0 => Nat.le_refl _
  | k + 1 => by
    have := ptL_len ix gap k
    rw [ptL_succ]
    split
    · rw [addP_len]; omega
    · rw [updP_len]; omega
theorem ptL_pos (ix : List Int) (gap : Int) : ∀ k, 0 < k → 0 < (ptL ix gap k).length
  | 0, h => absurd h (Nat.lt_irrefl 0)
  | k + 1, _ => by
    rw [ptL_succ]
    split
    · rw [addP_len]; omega
    · rename_i hn
      rw [updP_len]
      by_cases h0 : k = 0
      · subst h0
        exfalso
        apply hn
        rfl
      · exact ptL_pos ix gap k (by omega)

/-- the last part's end is written anew -/
theorem OwnL.upd {W : World} {lo hi : Nat} {v : Value} {us : Nat → Value} {P : List (List Int)} (h : OwnL W lo hi v us P) (hpos : 0 < P.length) (h2 : TwoP P) (x : Int) :
    ∃ g c old, us (P.length - 1) = .slice (some ⟨g, 0, none⟩) 2 c ∧ W.cell? ⟨g, 1, none⟩ = some old ∧ W.frozen? ⟨g, 1, none⟩ = false ∧ lo ≤ g ∧ g < W.heap.size ∧ OwnL (W.setCell ⟨g, 1, none⟩ (.int .i64 x)) lo hi v us (updP P x) := by
  have hj : P.length - 1 < P.length := by omega
  have he := h.each (P.length - 1) hj
  have hl := h2 (P.length - 1) hj
  obtain ⟨R, hR⟩ : ∃ R, P.getD (P.length - 1) [] = R := ⟨_, rfl⟩
  have he' : OwnN W lo (us (P.length - 1)) R := by rw [← hR]; exact he
  rw [hR] at hl
  match R, hl with
  | [a, b], _ =>
    have hrow : W.ownsRow lo 2 1 (us (P.length - 1)) 2 [.int .i64 a, .int .i64 b] := he'
    rcases Joins.ownsRow_forms hrow with ⟨e1, h0⟩ | ⟨g, c, e1⟩
    · omega
    · rw [e1] at hrow
      have hst := World.ownsRow.stored (h := hrow) 1 (.int .i64 x)
      refine ⟨g, c, .int .i64 b, e1, by simpa using World.ownsRow.cellAt (h := hrow) 1 (by omega), World.ownsRow.frozenAt (h := hrow) 1, (World.ownsRow.lt (h := hrow) g rfl).1, (World.ownsRow.lt (h := hrow) g rfl).2, ?_⟩
      have hw := OwnR.wrote (w' := W.setCell ⟨g, 1, none⟩ (.int .i64 x)) h hj (g := [a, x]) (by rw [e1]; exact hst.1) (by rw [e1]; exact grown_cell _ _ _)
      unfold OwnL
      rw [updP_len]
      refine hw.congr fun i hi => ?_
      unfold updP
      rw [hR]
      simp only [List.getD_eq_getElem?_getD, List.getElem?_set]
      by_cases e : i = P.length - 1
      · rw [if_pos e, if_pos e.symm, if_pos (by omega)]; rfl
      · rw [if_neg e, if_neg (fun e2 => e e2.symm)]
/-- the rows' cell -/
theorem OwnL.at {W : World} {lo hi gv cap : Nat} {us : Nat → Value} {P : List (List Int)} (h : OwnL W lo hi (.slice (some ⟨gv, 0, none⟩) P.length cap) us P) (i : Nat) (hip : i < P.length) : W.cell? ⟨gv, i, none⟩ = some (us i) := by
  have := World.ownsRow.cellAt (h := (show OwnR W lo hi _ us P.length _ from h).row) i (by simpa using hip)
  rw [this]
  simp [hip]

end Go.Proofs.YthblhibkbcmbaaaDoor
