/- Contracts of single functions, and plain lemmas, on which the exact laws of this seat rest; each holds under the conditions that it states. -/
import Derived.Test.YthblhibkbcmbaaaDoorQb
import Derived.Test.YthblhibkbcmbaaaDoorSc
import Derived.RegionTactic
import Derived.ChangeAlike
import Derived.BigRegion
namespace Go.Proofs.YthblhibkbcmbaaaDoor
set_option linter.unusedVariables false
set_option linter.unusedSimpArgs false
open Go.RowKit

/-! ### a picture with some black pixels -/
/-- one of the spots is the pixel -/
def anyS (xs : List (Int × Int)) (y x : Nat) : Bool := xs.any fun p => decide (p.1 = (x : Int)) && decide (p.2 = (y : Int))
theorem anyS_zero (xs : List (Int × Int)) : anyS (xs.take 0) = fun _ _ => false := by
  funext y x; simp [anyS]
theorem anyS_take (xs : List (Int × Int)) (k : Nat) (hk : k < xs.length) (y x : Nat) : anyS (xs.take (k + 1)) y x = (anyS (xs.take k) y x || (decide ((xs.getD k (0, 0)).1 = (x : Int)) && decide ((xs.getD k (0, 0)).2 = (y : Int)))) := by
  unfold anyS
  rw [List.take_succ_eq_append_getElem hk, List.any_append, List.getD_eq_getElem?_getD, List.getElem?_eq_getElem hk]
  simp
/-- the spots lie in the picture -/
def InP (wd h : Nat) (xs : List (Int × Int)) : Prop := ∀ i, i < xs.length → ∃ p q : Nat, (xs.getD i (0, 0)) = ((p : Int), (q : Int)) ∧ p < wd ∧ q < h
theorem listS_set (xs : List (Int × Int)) (wd N k p q : Nat) (hk : k < xs.length) (he : xs.getD k (0, 0) = ((p : Int), (q : Int))) (hp : p < wd) :
    (boolV (listF (anyS (xs.take k)) wd N)).set (q * wd + p) (.bool true) = boolV (listF (anyS (xs.take (k + 1))) wd N) := by
  have h1 : (q * wd + p) / wd = q := by rw [Nat.mul_comm, Nat.mul_add_div (by omega), Nat.div_eq_of_lt hp, Nat.add_zero]
  have h2 : (q * wd + p) % wd = p := by rw [Nat.mul_comm, Nat.mul_add_mod, Nat.mod_eq_of_lt hp]
  unfold boolV listF
  rw [List.map_map, List.map_map, set_map_range]
  apply List.map_congr_left
  intro j hj
  show _ = Value.bool (anyS (xs.take (k + 1)) (j / wd) (j % wd))
  rw [anyS_take xs k hk, he]
  by_cases h : j = q * wd + p
  · subst h
    rw [if_pos rfl, h1, h2]
    simp
  · rw [if_neg h]
    have hn : ¬ (p = j % wd ∧ q = j / wd) := fun ⟨a, b⟩ => h (by
      have := Nat.div_add_mod j wd
      rw [← a, ← b, Nat.mul_comm] at this
      omega)
    have e : (decide ((p : Int) = ((j % wd : Nat) : Int)) && decide ((q : Int) = ((j / wd : Nat) : Int))) = false := by
      rw [Bool.and_eq_false_iff, decide_eq_false_iff_not, decide_eq_false_iff_not]
      by_cases h3 : p = j % wd
      · right; intro e; exact hn ⟨h3, by omega⟩
      · left; omega
    show Value.bool (anyS (xs.take k) (j / wd) (j % wd)) = _
    rw [e, Bool.or_false]

theorem list_zero (xs : List (Int × Int)) (wd N : Nat) : boolV (listF (anyS (xs.take 0)) wd N) = List.replicate N (.bool false) := by
  rw [anyS_zero]
  unfold boolV listF
  rw [List.map_map]
  apply List.ext_getElem?
  intro i
  by_cases hi : i < N <;> simp [hi]

end Go.Proofs.YthblhibkbcmbaaaDoor
