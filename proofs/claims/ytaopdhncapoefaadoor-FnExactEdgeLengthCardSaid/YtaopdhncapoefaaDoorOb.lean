/- Contracts of single functions, and plain lemmas, on which the exact laws of this seat rest; each holds under the conditions that it states. -/
import Derived.Test.YtaopdhncapoefaaDoorOa
import Derived.Deep.QuietTactic
import Derived.BigQuiet
namespace Go.Proofs.YtaopdhncapoefaaDoor
set_option linter.unusedVariables false
set_option linter.unusedSimpArgs false
open Go.RowKit

theorem eqI_yes {a b : Int} (h : a = b) : (a == b) = true := beq_iff_eq.2 h
theorem eqI_no {a b : Int} (h : a ≠ b) : (a == b) = false := by simpa using h

theorem l04X_any (d : Int) (w : World) : Calls Tryd.prog 33 #[.int .i64 d] w fun e w' => e = .returned (.int .i64 (dX d)) ∧ w = w' := by
  by_cases h0 : d = 0
  · have hb := eqI_yes h0
    have HW : Hid (dX d = 1) := by show _ = _; unfold dX; rw [if_pos h0]
    clear h0
    go_enter Tryd.func33, Tryd.ntmps33
    go_wp2
    go_ret
    exact ⟨ret_int HW.out.symm, rfl⟩
  · have hb := eqI_no h0
    by_cases h2 : d = 2
    · have hb2 := eqI_yes h2
      have HW : Hid (dX d = -1) := by show _ = _; unfold dX; rw [if_neg h0, if_pos h2]
      clear h0 h2
      go_enter Tryd.func33, Tryd.ntmps33
      go_wp2
      go_ret
      exact ⟨ret_int HW.out.symm, rfl⟩
    · have hb2 := eqI_no h2
      have HW : Hid (dX d = 0) := by show _ = _; unfold dX; rw [if_neg h0, if_neg h2]
      clear h0 h2
      go_enter Tryd.func33, Tryd.ntmps33
      go_wp2
      go_ret
      exact ⟨ret_int HW.out.symm, rfl⟩
theorem l04Y_any (d : Int) (w : World) : Calls Tryd.prog 34 #[.int .i64 d] w fun e w' => e = .returned (.int .i64 (dY d)) ∧ w = w' := by
  by_cases h0 : d = 1
  · have hb := eqI_yes h0
    have HW : Hid (dY d = 1) := by show _ = _; unfold dY; rw [if_pos h0]
    clear h0
    go_enter Tryd.func34, Tryd.ntmps34
    go_wp2
    go_ret
    exact ⟨ret_int HW.out.symm, rfl⟩
  · have hb := eqI_no h0
    by_cases h2 : d = 3
    · have hb2 := eqI_yes h2
      have HW : Hid (dY d = -1) := by show _ = _; unfold dY; rw [if_neg h0, if_pos h2]
      clear h0 h2
      go_enter Tryd.func34, Tryd.ntmps34
      go_wp2
      go_ret
      exact ⟨ret_int HW.out.symm, rfl⟩
    · have hb2 := eqI_no h2
      have HW : Hid (dY d = 0) := by show _ = _; unfold dY; rw [if_neg h0, if_neg h2]
      clear h0 h2
      go_enter Tryd.func34, Tryd.ntmps34
      go_wp2
      go_ret
      exact ⟨ret_int HW.out.symm, rfl⟩

end Go.Proofs.YtaopdhncapoefaaDoor
