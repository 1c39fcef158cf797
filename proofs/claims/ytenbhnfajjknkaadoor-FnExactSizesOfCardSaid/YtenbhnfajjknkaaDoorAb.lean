/- Contracts of single functions, and plain lemmas, on which the exact laws of this seat rest; each holds under the conditions that it states. -/
import Derived.Test.YtenbhnfajjknkaaDoorA5
import Derived.Deep.QuietTactic
import Derived.BigQuiet
import Derived.Deep.RegionHeld3
import Derived.Test.YtenbhnfajjknkaaDoorQb
namespace Go.Proofs.YtenbhnfajjknkaaDoor
set_option linter.unusedVariables false
set_option linter.unusedSimpArgs false
open Go.RowKit

def absI (x : Int) : Int := max x (-x)
theorem absI_range (x : Int) (h : -100 ≤ x ∧ x ≤ 100) : 0 ≤ absI x ∧ absI x ≤ 100 := by unfold absI; omega
theorem absolute_any (x : Int) (w : World) (h : -100 ≤ x ∧ x ≤ 100) : Calls Tryd.prog 112 #[.int .i64 x] w fun e w' => e = .returned (.int .i64 (absI x)) ∧ w = w' := by
  go_enter Tryd.func112, Tryd.ntmps112
  go_wp2
  all_goals go_ret
  all_goals exact ⟨ret_int (by unfold absI; omega), rfl⟩

/-- the rule of a cross -/
def crF (r x y : Int) : Bool := decide (absI x + absI y ≤ r)

end Go.Proofs.YtenbhnfajjknkaaDoor

/- Contracts of single functions, and plain lemmas, on which the exact laws of this seat rest; each holds under the conditions that it states. -/
namespace Go.Proofs.YtenbhnfajjknkaaDoor
set_option linter.unusedVariables false
set_option linter.unusedSimpArgs false
open Go.RowKit

/-! ### elements that are valid -/
def okO (p : Int × Int) : Bool := decide (-4 ≤ p.1) && decide (p.1 ≤ 4) && (decide (-4 ≤ p.2) && decide (p.2 ≤ 4))
def befB (a b : Int × Int) : Bool := decide (a.2 < b.2) || (decide (a.2 = b.2) && decide (a.1 < b.1))
def stepOk (xs : List (Int × Int)) (i : Nat) : Bool := okO (xs.getD i (0, 0)) && (decide (i = 0) || befB (xs.getD (i - 1) (0, 0)) (xs.getD i (0, 0)))
def elB (xs : List (Int × Int)) : Bool := (List.range xs.length).all (stepOk xs) && (decide (1 ≤ xs.length) && decide (xs.length ≤ 50))
theorem elB_bad {xs : List (Int × Int)} {i : Nat} (hi : i < xs.length) (h : stepOk xs i = false) : elB xs = false := by
  unfold elB
  rw [Bool.and_eq_false_iff]
  left
  rw [List.all_eq_false]
  exact ⟨i, List.mem_range.2 hi, by rw [h]; simp⟩
theorem elB_good {xs : List (Int × Int)} (h : ∀ i, i < xs.length → stepOk xs i = true) : elB xs = (decide (1 ≤ xs.length) && decide (xs.length ≤ 50)) := by
  unfold elB
  rw [show (List.range xs.length).all (stepOk xs) = true from List.all_eq_true.2 (fun i hi => h i (List.mem_range.1 hi)), Bool.true_and]

set_option maxHeartbeats 1000000 in
theorem l03Before_any (a b c d : Int) (w : World) : Calls Tryd.prog 86 #[.agg #[.int .i64 a, .int .i64 b], .agg #[.int .i64 c, .int .i64 d]] w (SaysB (befB (a, b) (c, d)) w) := by
  by_cases h1 : b < d
  · have HV : Hid (befB (a, b) (c, d) = true) := by show _ = _; simp [befB, h1]
    go_enter Tryd.func86, Tryd.ntmps86
    go_wp2
    go_ret
    exact ⟨ret_bool HV.out.symm, Joins.below_alloc2 _ _ _⟩
  · have h1' : decide (b < d) = false := decide_eq_false h1
    by_cases h2 : b = d
    · have h2' : (b == d) = true := beq_iff_eq.2 h2
      by_cases h3 : a < c
      · have HV : Hid (befB (a, b) (c, d) = true) := by show _ = _; simp [befB, h2, h3]
        clear h2
        go_enter Tryd.func86, Tryd.ntmps86
        go_wp2
        go_ret
        exact ⟨ret_bool HV.out.symm, Joins.below_alloc2 _ _ _⟩
      · have h3' : decide (a < c) = false := decide_eq_false h3
        have HV : Hid (befB (a, b) (c, d) = false) := by show _ = _; simp [befB, h2]; omega
        clear h2
        go_enter Tryd.func86, Tryd.ntmps86
        go_wp2
        go_ret
        exact ⟨ret_bool HV.out.symm, Joins.below_alloc2 _ _ _⟩
    · have h2' : (b == d) = false := by simpa using h2
      have HV : Hid (befB (a, b) (c, d) = false) := by show _ = _; simp [befB, h2]; omega
      clear h2
      go_enter Tryd.func86, Tryd.ntmps86
      go_wp2
      go_ret
      exact ⟨ret_bool HV.out.symm, Joins.below_alloc2 _ _ _⟩
end Go.Proofs.YtenbhnfajjknkaaDoor
