/- Contracts of single functions, and plain lemmas, on which the exact laws of this seat rest; each holds under the conditions that it states. -/
import Derived.Test.YthblhibkbcmbaaaDoorCV6
import Derived.Test.YthblhibkbcmbaaaDoorRI
namespace Go.Proofs.YthblhibkbcmbaaaDoor
set_option linter.unusedVariables false
set_option linter.unusedSimpArgs false
open Go.RowKit
attribute [local go_sem] Oper.semAt_some

set_option maxHeartbeats 2000000 in
set_option maxRecDepth 100000 in
theorem requiredTour_yes (c n : Int) (w : World) (hc : inB c 0 3 = true) (hn : inB n 0 4 = true) : Calls Tryd.prog 38 #[.int .i64 c, .int .i64 n] w (fun e w' => e = .returned (.agg #[.int .i64 c, .int .i64 n]) ∧ Below w.heap.size w w') := by
  have CO := Lib.hid (fun W => isOrder_any n W)
  rw [hn] at CO
  have hc2 : 0 ≤ c ∧ c ≤ 3 := by
    unfold inB at hc
    simpa using hc
  obtain ⟨k1, k2⟩ := hc2
  have CR := Lib.hid (fun W => require_yes W)
  go_enter Tryd.func38, Tryd.ntmps38
  go_wp2_with fail
  refine (CO.out _).mono ?_
  rintro e w1 ⟨rfl, rfl⟩
  go_wp2_with fail
  refine (CR.out _).mono ?_
  rintro e w2 ⟨rfl, rfl⟩
  go_wp2
  exact bodyPost_ret (results_cell1 (p := 4) (ty := 66) Tryd.results38 _ _ w.heap.size 66 _ (0, 0) _ rfl (heap_alloc_last w _) Tryd.underlying66 rfl (by kernel_rfl)) rfl ⟨rfl, Joins.below_alloc1 _ _⟩

set_option maxHeartbeats 2000000 in
set_option maxRecDepth 100000 in
theorem requiredTour_no (c n : Int) (w : World) (hno : (inB c 0 3 && inB n 0 4) = false) (hr : NoRes w) : Calls Tryd.prog 38 #[.int .i64 c, .int .i64 n] w (fun e w' => (∃ T x, e = .panicked [{ v := .iface T x, recovered := false }]) ∧ Below w.heap.size w w') := by
  have CO := Lib.hid (fun W => isOrder_any n W)
  have CN := Lib.hid (require_no _ (hr.below (Joins.below_alloc1 w (.cells #[.int .i64 0, .int .i64 0] 66))))
  have B0 := Lib.hid (Joins.below_alloc1 w (.cells #[.int .i64 0, .int .i64 0] 66))
  clear hr
  by_cases k1 : 0 ≤ c
  · by_cases k2 : c ≤ 3
    · have hn : inB n 0 4 = false := by
        have : inB c 0 3 = true := by unfold inB; simp [k1, k2]
        rw [this] at hno
        simpa using hno
      rw [hn] at CO
      clear hno
      go_enter Tryd.func38, Tryd.ntmps38
      go_wp2_with fail
      refine (CO.out _).mono ?_
      rintro e w1 ⟨rfl, rfl⟩
      go_wp2_with fail
      refine CN.out.mono ?_
      rintro e w4 ⟨T, x, rfl, rfl⟩
      go_wp2
      exact ⟨rfl, ⟨T, x, rfl⟩, B0.out⟩
    · clear hno CO
      go_enter Tryd.func38, Tryd.ntmps38
      go_wp2_with fail
      refine CN.out.mono ?_
      rintro e w4 ⟨T, x, rfl, rfl⟩
      go_wp2
      exact ⟨rfl, ⟨T, x, rfl⟩, B0.out⟩
  · clear hno CO
    go_enter Tryd.func38, Tryd.ntmps38
    go_wp2_with fail
    refine CN.out.mono ?_
    rintro e w4 ⟨T, x, rfl, rfl⟩
    go_wp2
    exact ⟨rfl, ⟨T, x, rfl⟩, B0.out⟩
end Go.Proofs.YthblhibkbcmbaaaDoor
