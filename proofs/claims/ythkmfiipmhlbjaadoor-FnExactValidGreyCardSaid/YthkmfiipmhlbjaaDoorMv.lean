/- Contracts of single functions, and plain lemmas, on which the exact laws of this seat rest; each holds under the conditions that it states. -/
import Derived.Test.YthkmfiipmhlbjaaDoorMa
namespace Go.Proofs.YthkmfiipmhlbjaaDoor
set_option linter.unusedVariables false
open Go.RowKit

theorem isSide_any (n : Int) (w : World) : Calls Tryd.prog 158 #[.int .i64 n] w fun e w' => e = .returned (.bool (inB n 1 16)) ∧ w = w' := by
  by_cases h1 : 1 ≤ n
  · have e2 : Hid (inB n 1 16 = decide (n ≤ 16)) := by
      show inB n 1 16 = _
      simp [inB, h1]
    go_enter Tryd.func158, Tryd.ntmps158
    go_wp2
    go_ret
    exact ⟨ret_bool e2.out.symm, rfl⟩
  · have e2 : Hid (inB n 1 16 = false) := by
      show inB n 1 16 = _
      simp [inB, h1]
    go_enter Tryd.func158, Tryd.ntmps158
    go_wp2
    go_ret
    exact ⟨ret_bool (a := false) e2.out.symm, rfl⟩

set_option maxHeartbeats 400000 in
set_option maxRecDepth 100000 in
theorem blankMatrix_yes (a b : Int) (w : World) (ha : 1 ≤ a ∧ a ≤ 16) (hb : 1 ≤ b ∧ b ≤ 16) : Calls Tryd.prog 136 #[.int .i64 a, .int .i64 b] w (RetMat a b (fun _ => 0) true w) := by
  have h1 := Lib.hid (inB_yes ha.1 ha.2)
  have h2 := Lib.hid (inB_yes hb.1 hb.2)
  go_enter Tryd.func136, Tryd.ntmps136
  go_wp2_with fail
  refine (isSide_any _ _).mono ?_
  rintro e w' ⟨rfl, rfl⟩
  rw [h1.out]
  go_wp2_with fail
  refine (isSide_any _ _).mono ?_
  rintro e w' ⟨rfl, rfl⟩
  rw [h2.out]
  go_wp2_with (refine wpList_store_row rfl 95 _ _ rfl w.heap.size (mcells a b (fun _ => 0)) rfl rfl 95 (mcells 0 0 (fun _ => 0)) (heap_alloc_last w _) infoM rfl (mcells_one _ _ _) ?_)
  rw [World.setRow_alloc_new]
  exact bodyPost_ret (results_cell_tmp rfl _ _ w.heap.size 95 (mcells a b (fun _ => 0)) (0, 0) _ rfl (heap_alloc_last w _) Tryd.underlying95 rfl infoM) rfl ⟨rfl, Joins.below_alloc1 _ _⟩

set_option maxHeartbeats 400000 in
set_option maxRecDepth 100000 in
theorem blankMatrix_no (a b : Int) (w : World) (h : ¬ ((1 ≤ a ∧ a ≤ 16) ∧ (1 ≤ b ∧ b ≤ 16))) : Calls Tryd.prog 136 #[.int .i64 a, .int .i64 b] w (RetMat 0 0 (fun _ => 0) false w) := by
  by_cases ha : 1 ≤ a ∧ a ≤ 16
  · have h1 := Lib.hid (inB_yes ha.1 ha.2)
    have h2 := Lib.hid (inB_no (n := b) (a := 1) (b := 16) (by omega))
    go_enter Tryd.func136, Tryd.ntmps136
    go_wp2_with fail
    refine (isSide_any _ _).mono ?_
    rintro e w' ⟨rfl, rfl⟩
    rw [h1.out]
    go_wp2_with fail
    refine (isSide_any _ _).mono ?_
    rintro e w' ⟨rfl, rfl⟩
    rw [h2.out]
    go_wp2_with (refine wpList_store_row rfl 95 _ _ rfl w.heap.size (mcells 0 0 (fun _ => 0)) rfl rfl 95 (mcells 0 0 (fun _ => 0)) (heap_alloc_last w _) infoM rfl (mcells_one _ _ _) ?_)
    rw [World.setRow_alloc_new]
    exact bodyPost_ret (results_cell_tmp rfl _ _ w.heap.size 95 (mcells 0 0 (fun _ => 0)) (0, 0) _ rfl (heap_alloc_last w _) Tryd.underlying95 rfl infoM) rfl ⟨rfl, Joins.below_alloc1 _ _⟩
  · have h1 := Lib.hid (inB_no (n := a) (a := 1) (b := 16) (by omega))
    go_enter Tryd.func136, Tryd.ntmps136
    go_wp2_with fail
    refine (isSide_any _ _).mono ?_
    rintro e w' ⟨rfl, rfl⟩
    rw [h1.out]
    go_wp2_with (refine wpList_store_row rfl 95 _ _ rfl w.heap.size (mcells 0 0 (fun _ => 0)) rfl rfl 95 (mcells 0 0 (fun _ => 0)) (heap_alloc_last w _) infoM rfl (mcells_one _ _ _) ?_)
    rw [World.setRow_alloc_new]
    exact bodyPost_ret (results_cell_tmp rfl _ _ w.heap.size 95 (mcells 0 0 (fun _ => 0)) (0, 0) _ rfl (heap_alloc_last w _) Tryd.underlying95 rfl infoM) rfl ⟨rfl, Joins.below_alloc1 _ _⟩

/-! ### has, black: the matrix's cells are a variable C -/
end Go.Proofs.YthkmfiipmhlbjaaDoor
