/- Contracts of single functions, and plain lemmas, on which the exact laws of this seat rest; each holds under the conditions that it states. -/
import Derived.Test.YtfdefbfakdndiaaDoorTb
import Derived.Test.YtfdefbfakdndiaaDoorSu
import Derived.Test.YtfdefbfakdndiaaDoorSc
import Derived.RegionTactic
import Derived.BigRegion
namespace Go.Proofs.YtfdefbfakdndiaaDoor
set_option linter.unusedVariables false
open Go.RowKit

theorem infoSpot : (Tryd.prog.info? 49).map (·.size) = some 2 := by kernel_rfl
/-- a struct in a variable handed back -/
theorem results_cell1 {P : Program} {fn : Func} {p : Tmp} {ty : TypeId} (h : fn.results = #[.cell p ty]) (tmps : Array Value) (w : World) (g : Nat) (t : TypeId) (cs : Array Value) (fr : Nat × Nat) (d : TypeDesc)
    (hp : tmps.getD p undef = .pointer (some ⟨g, 0, none⟩)) (hg : w.heap[g]? = some (.cells cs t fr))
    (hu : P.underlying ty = some d) (hd : (match d with | .struct _ | .array _ _ => true | _ => false) = true) (hi : (P.info? ty).map (·.size) = some cs.size) :
    (results fn tmps).run P w = .ok (.agg cs) w := by
  have hp' : tmps[p]?.getD undef = .pointer (some ⟨g, 0, none⟩) := by simpa using hp
  simp [results, h, hp', asAddr, run_loadVar_row w g t ty cs fr d hg hu hd hi]

set_option maxHeartbeats 1000000 in
set_option maxRecDepth 100000 in
theorem turnedSpot_0 (C : Array Value) (a b : Nat) (g : Nat → Nat) (x y : Int) (w : World) (hC : C = mat a b g) (ha : a ≤ 16) (hb : b ≤ 16) (hx : 0 ≤ x ∧ x ≤ 16) (hy : 0 ≤ y ∧ y ≤ 16) :
    Calls Tryd.prog 81 #[.agg C, .int .i64 0, .int .i64 x, .int .i64 y] w (fun e w' => e = .returned (.agg #[.int .i64 ((a : Int) - 1 - x), .int .i64 y]) ∧ Below w.heap.size w w') := by
  have hl1 : ((w.alloc (.cells C 70)).alloc (.cells #[.int .i64 0, .int .i64 0] 49)).heap[w.heap.size]? = some (.cells C 70 (0, 0)) := by
    rw [Below.heap_alloc _ _ _ (by simp)]; exact heap_alloc_last w _
  have c0 : ((w.alloc (.cells C 70)).alloc (.cells #[.int .i64 0, .int .i64 0] 49)).cell? ⟨w.heap.size, 0, none⟩ = some (.int .i64 a) := by
    rw [Joins.cell_of_block hl1 0, hC]; rfl
  have c1 : ((w.alloc (.cells C 70)).alloc (.cells #[.int .i64 0, .int .i64 0] 49)).cell? ⟨w.heap.size, 1, none⟩ = some (.int .i64 b) := by
    rw [Joins.cell_of_block hl1 1, hC]; rfl
  obtain ⟨x1, x2⟩ := hx
  obtain ⟨y1, y2⟩ := hy
  clear hl1 hC
  go_enter Tryd.func81, Tryd.ntmps81
  go_wp2
  exact bodyPost_ret (results_cell1 rfl _ _ (w.heap.size + 1) 49 _ (0, 0) _ rfl (heap_alloc2_new _ _ _) Tryd.underlying49 rfl infoSpot) rfl ⟨rfl, Joins.below_alloc2 _ _ _⟩

set_option maxHeartbeats 1000000 in
set_option maxRecDepth 100000 in
theorem turnedSpot_1 (C : Array Value) (a b : Nat) (g : Nat → Nat) (x y : Int) (w : World) (hC : C = mat a b g) (ha : a ≤ 16) (hb : b ≤ 16) (hx : 0 ≤ x ∧ x ≤ 16) (hy : 0 ≤ y ∧ y ≤ 16) :
    Calls Tryd.prog 81 #[.agg C, .int .i64 1, .int .i64 x, .int .i64 y] w (fun e w' => e = .returned (.agg #[.int .i64 x, .int .i64 ((b : Int) - 1 - y)]) ∧ Below w.heap.size w w') := by
  have hl1 : ((w.alloc (.cells C 70)).alloc (.cells #[.int .i64 0, .int .i64 0] 49)).heap[w.heap.size]? = some (.cells C 70 (0, 0)) := by
    rw [Below.heap_alloc _ _ _ (by simp)]; exact heap_alloc_last w _
  have c0 : ((w.alloc (.cells C 70)).alloc (.cells #[.int .i64 0, .int .i64 0] 49)).cell? ⟨w.heap.size, 0, none⟩ = some (.int .i64 a) := by
    rw [Joins.cell_of_block hl1 0, hC]; rfl
  have c1 : ((w.alloc (.cells C 70)).alloc (.cells #[.int .i64 0, .int .i64 0] 49)).cell? ⟨w.heap.size, 1, none⟩ = some (.int .i64 b) := by
    rw [Joins.cell_of_block hl1 1, hC]; rfl
  obtain ⟨x1, x2⟩ := hx
  obtain ⟨y1, y2⟩ := hy
  clear hl1 hC
  go_enter Tryd.func81, Tryd.ntmps81
  go_wp2
  exact bodyPost_ret (results_cell1 rfl _ _ (w.heap.size + 1) 49 _ (0, 0) _ rfl (heap_alloc2_new _ _ _) Tryd.underlying49 rfl infoSpot) rfl ⟨rfl, Joins.below_alloc2 _ _ _⟩

set_option maxHeartbeats 1000000 in
set_option maxRecDepth 100000 in
theorem turnedSpot_2 (C : Array Value) (a b : Nat) (g : Nat → Nat) (x y : Int) (w : World) (hC : C = mat a b g) (ha : a ≤ 16) (hb : b ≤ 16) (hx : 0 ≤ x ∧ x ≤ 16) (hy : 0 ≤ y ∧ y ≤ 16) :
    Calls Tryd.prog 81 #[.agg C, .int .i64 2, .int .i64 x, .int .i64 y] w (fun e w' => e = .returned (.agg #[.int .i64 y, .int .i64 x]) ∧ Below w.heap.size w w') := by
  have hl1 : ((w.alloc (.cells C 70)).alloc (.cells #[.int .i64 0, .int .i64 0] 49)).heap[w.heap.size]? = some (.cells C 70 (0, 0)) := by
    rw [Below.heap_alloc _ _ _ (by simp)]; exact heap_alloc_last w _
  have c0 : ((w.alloc (.cells C 70)).alloc (.cells #[.int .i64 0, .int .i64 0] 49)).cell? ⟨w.heap.size, 0, none⟩ = some (.int .i64 a) := by
    rw [Joins.cell_of_block hl1 0, hC]; rfl
  have c1 : ((w.alloc (.cells C 70)).alloc (.cells #[.int .i64 0, .int .i64 0] 49)).cell? ⟨w.heap.size, 1, none⟩ = some (.int .i64 b) := by
    rw [Joins.cell_of_block hl1 1, hC]; rfl
  obtain ⟨x1, x2⟩ := hx
  obtain ⟨y1, y2⟩ := hy
  clear hl1 hC
  go_enter Tryd.func81, Tryd.ntmps81
  go_wp2
  exact bodyPost_ret (results_cell1 rfl _ _ (w.heap.size + 1) 49 _ (0, 0) _ rfl (heap_alloc2_new _ _ _) Tryd.underlying49 rfl infoSpot) rfl ⟨rfl, Joins.below_alloc2 _ _ _⟩

set_option maxHeartbeats 1000000 in
set_option maxRecDepth 100000 in
theorem turnedSpot_3 (C : Array Value) (a b : Nat) (g : Nat → Nat) (x y : Int) (w : World) (hC : C = mat a b g) (ha : a ≤ 16) (hb : b ≤ 16) (hx : 0 ≤ x ∧ x ≤ 16) (hy : 0 ≤ y ∧ y ≤ 16) :
    Calls Tryd.prog 81 #[.agg C, .int .i64 3, .int .i64 x, .int .i64 y] w (fun e w' => e = .returned (.agg #[.int .i64 y, .int .i64 ((b : Int) - 1 - x)]) ∧ Below w.heap.size w w') := by
  have hl1 : ((w.alloc (.cells C 70)).alloc (.cells #[.int .i64 0, .int .i64 0] 49)).heap[w.heap.size]? = some (.cells C 70 (0, 0)) := by
    rw [Below.heap_alloc _ _ _ (by simp)]; exact heap_alloc_last w _
  have c0 : ((w.alloc (.cells C 70)).alloc (.cells #[.int .i64 0, .int .i64 0] 49)).cell? ⟨w.heap.size, 0, none⟩ = some (.int .i64 a) := by
    rw [Joins.cell_of_block hl1 0, hC]; rfl
  have c1 : ((w.alloc (.cells C 70)).alloc (.cells #[.int .i64 0, .int .i64 0] 49)).cell? ⟨w.heap.size, 1, none⟩ = some (.int .i64 b) := by
    rw [Joins.cell_of_block hl1 1, hC]; rfl
  obtain ⟨x1, x2⟩ := hx
  obtain ⟨y1, y2⟩ := hy
  clear hl1 hC
  go_enter Tryd.func81, Tryd.ntmps81
  go_wp2
  exact bodyPost_ret (results_cell1 rfl _ _ (w.heap.size + 1) 49 _ (0, 0) _ rfl (heap_alloc2_new _ _ _) Tryd.underlying49 rfl infoSpot) rfl ⟨rfl, Joins.below_alloc2 _ _ _⟩
end Go.Proofs.YtfdefbfakdndiaaDoor
