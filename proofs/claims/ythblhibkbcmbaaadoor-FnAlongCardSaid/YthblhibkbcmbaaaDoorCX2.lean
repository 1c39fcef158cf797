/- Contracts of single functions, and plain lemmas, on which the exact laws of this seat rest; each holds under the conditions that it states. -/
import Derived.Test.YthblhibkbcmbaaaDoorCX1
import Derived.Test.YthblhibkbcmbaaaDoorBY
import Derived.Test.YthblhibkbcmbaaaDoorCVE
import Derived.Test.YthblhibkbcmbaaaDoorCVB
import Derived.Test.YthblhibkbcmbaaaDoorCVH
import Derived.Test.YthblhibkbcmbaaaDoorD4
import Derived.Test.YthblhibkbcmbaaaDoorDB
namespace Go.Proofs.YthblhibkbcmbaaaDoor
set_option linter.unusedVariables false
set_option linter.unusedSimpArgs false
open Go.RowKit
attribute [local go_sem] Oper.semAt_some

theorem r8Long_any (v0 v1 : Value) (ns ms : List Nat) (w : World) (h0 : SlY w v0 ns) (h1 : SlY w v1 ms) : Calls Tryd.prog 19 #[v0, v1] w (fun e w' => e = .returned (.bool (decide (48 < ns.length) || decide (48 < ms.length))) ∧ w = w') := by
  obtain ⟨ao, cap, rfl⟩ := h0.form
  obtain ⟨ao1, cap1, rfl⟩ := h1.form
  clear h0 h1
  by_cases h : 48 < ns.length
  · rw [decide_eq_true h, Bool.true_or]
    go_enter Tryd.func19, Tryd.ntmps19
    go_wp2_with fail
    go_ret
    exact ⟨rfl, rfl⟩
  · rw [decide_eq_false h, Bool.false_or]
    go_enter Tryd.func19, Tryd.ntmps19
    go_wp2_with fail
    go_ret
    exact ⟨ret_bool (by rw [decide_eq_false (show ¬ (48 : Int) < (ns.length : Int) by omega), Bool.false_or]; exact decide_eq_decide.2 (by omega)), rfl⟩

end Go.Proofs.YthblhibkbcmbaaaDoor
