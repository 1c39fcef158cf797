/- Contracts of single functions, and plain lemmas, on which the exact laws of this seat rest; each holds under the conditions that it states. -/
import Derived.Test.YtakaglbbcaplhaaDoorA5
import Derived.Deep.QuietTactic
import Derived.BigQuiet
import Derived.Deep.RegionHeld3
namespace Go.Proofs.YtakaglbbcaplhaaDoor
set_option linter.unusedVariables false
set_option linter.unusedSimpArgs false
open Go.RowKit

theorem l00Max_any (a b : Int) (w : World) : Calls Tryd.prog 152 #[.int .i64 a, .int .i64 b] w fun e w' => e = .returned (.int .i64 (max a b)) ∧ w = w' := by
  by_cases h : b < a
  · have HV : Hid (max a b = a) := by show _ = _; omega
    go_enter Tryd.func152, Tryd.ntmps152
    go_wp2
    go_ret
    exact ⟨ret_int HV.out.symm, rfl⟩
  · have HV : Hid (max a b = b) := by show _ = _; omega
    go_enter Tryd.func152, Tryd.ntmps152
    go_wp2
    go_ret
    exact ⟨ret_int HV.out.symm, rfl⟩
def absI (x : Int) : Int := max x (-x)
theorem absI_range (x : Int) (h : -100 ≤ x ∧ x ≤ 100) : 0 ≤ absI x ∧ absI x ≤ 100 := by unfold absI; omega
theorem absolute_any (x : Int) (w : World) (h : -100 ≤ x ∧ x ≤ 100) : Calls Tryd.prog 153 #[.int .i64 x] w fun e w' => e = .returned (.int .i64 (absI x)) ∧ w = w' := by
  go_enter Tryd.func153, Tryd.ntmps153
  go_wp2
  all_goals go_ret
  all_goals exact ⟨ret_int (by unfold absI; omega), rfl⟩

/-- the rule of a cross -/
def crF (r x y : Int) : Bool := decide (absI x + absI y ≤ r)

end Go.Proofs.YtakaglbbcaplhaaDoor
