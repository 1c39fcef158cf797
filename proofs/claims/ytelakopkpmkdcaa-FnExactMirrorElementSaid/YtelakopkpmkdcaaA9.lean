/- Contracts of single functions, and plain lemmas, on which the exact laws of this seat rest; each holds under the conditions that it states. -/
import Derived.Test.YtelakopkpmkdcaaA5
import Derived.Deep.QuietTactic
import Derived.BigQuiet
import Derived.Deep.RegionHeld3
namespace Go.Proofs.Ytelakopkpmkdcaa
set_option linter.unusedVariables false
set_option linter.unusedSimpArgs false
open Go.RowKit

theorem l00Max_any (a b : Int) (w : World) : Calls Try.prog 53 #[.int .i64 a, .int .i64 b] w fun e w' => e = .returned (.int .i64 (max a b)) ∧ w = w' := by
  by_cases h : b < a
  · have HV : Hid (max a b = a) := by show _ = _; omega
    go_enter Try.func53, Try.ntmps53
    go_wp2
    go_ret
    exact ⟨ret_int HV.out.symm, rfl⟩
  · have HV : Hid (max a b = b) := by show _ = _; omega
    go_enter Try.func53, Try.ntmps53
    go_wp2
    go_ret
    exact ⟨ret_int HV.out.symm, rfl⟩
def absI (x : Int) : Int := max x (-x)
theorem absI_range (x : Int) (h : -100 ≤ x ∧ x ≤ 100) : 0 ≤ absI x ∧ absI x ≤ 100 := by unfold absI; omega
theorem l03Abs_any (x : Int) (w : World) (h : -100 ≤ x ∧ x ≤ 100) : Calls Try.prog 33 #[.int .i64 x] w fun e w' => e = .returned (.int .i64 (absI x)) ∧ w = w' := by
  have e1 : IntKind.i64.wrap (-x) = -x := IntWalk.i64_in _ (by omega)
  go_enter Try.func33, Try.ntmps33
  go_wp2_with fail
  refine (l00Max_any _ _ _).mono ?_
  rintro e w' ⟨rfl, rfl⟩
  go_wp2_with fail
  go_ret
  exact ⟨ret_int (by unfold absI; first | rfl | rw [e1]), rfl⟩
theorem absolute_any (x : Int) (w : World) (h : -100 ≤ x ∧ x ≤ 100) : Calls Try.prog 36 #[.int .i64 x] w fun e w' => e = .returned (.int .i64 (absI x)) ∧ w = w' := by
  go_enter Try.func36, Try.ntmps36
  go_wp2
  all_goals go_ret
  all_goals exact ⟨ret_int (by unfold absI; omega), rfl⟩

/-- the rule of a cross -/
def crF (r x y : Int) : Bool := decide (absI x + absI y ≤ r)

set_option maxHeartbeats 1000000 in
set_option maxRecDepth 100000 in
theorem cross1_any (x y r : Int) (q : Nat) (w : World) (hx : -4 ≤ x ∧ x ≤ 4) (hy : -4 ≤ y ∧ y ≤ 4) (hq : w.cell? ⟨q, 0, none⟩ = some (.int .i64 r)) :
    Calls Try.prog 35 #[.agg #[.int .i64 x, .int .i64 y], .pointer (some ⟨q, 0, none⟩)] w (SaysB (crF r x y) w) := by
  have hl := blk_lt hq
  have CA := Lib.hid (fun (z : Int) (hz : -4 ≤ z ∧ z ≤ 4) W => absolute_any z W (by omega))
  have r1 := absI_range x (by omega)
  have r2 := absI_range y (by omega)
  obtain ⟨a, ha⟩ : ∃ a, absI x = a := ⟨_, rfl⟩
  obtain ⟨b, hb⟩ : ∃ b, absI y = b := ⟨_, rfl⟩
  have C1 := Lib.hid (fun W => CA.out x hx W)
  have C2 := Lib.hid (fun W => CA.out y hy W)
  unfold crF
  rw [ha] at C1 r1 ⊢
  rw [hb] at C2 r2 ⊢
  clear ha hb CA
  go_enter Try.func35, Try.ntmps35
  go_wp2_with fail
  go_quiet ((go_at_call 36; first | exact Calls.quiet_of_same ((C1.out _).mono fun e w' ⟨he, hw⟩ => ⟨he, hw.symm⟩) | exact Calls.quiet_of_same ((C2.out _).mono fun e w' ⟨he, hw⟩ => ⟨he, hw.symm⟩)))
  go_wp2
  go_ret
  exact ⟨rfl, (Joins.below_alloc1 w _).trans (Joins.below_draws w.heap.size _ _)⟩
end Go.Proofs.Ytelakopkpmkdcaa
