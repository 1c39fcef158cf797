/- Contracts of single functions, and plain lemmas, on which the exact laws of this seat rest; each holds under the conditions that it states. -/
import Derived.Test.YthblhibkbcmbaaaDoorPb
import Derived.Test.YthblhibkbcmbaaaDoorSc
import Derived.Test.YthblhibkbcmbaaaDoorSu
import Derived.Test.YthblhibkbcmbaaaDoorRc
import Derived.RegionTactic
import Derived.BigRegion
namespace Go.Proofs.YthblhibkbcmbaaaDoor
set_option linter.unusedVariables false
open Go.RowKit

/-- the turned pixel, kind 0 -/
def tu0 (ss : List ByteArray) (a b : Nat) (y x : Nat) : Bool := pixI ss ((a : Int) - 1 - (x : Int)) (y : Int)
/-- the turned pixel, kind 1 -/
def tu1 (ss : List ByteArray) (a b : Nat) (y x : Nat) : Bool := pixI ss (x : Int) ((b : Int) - 1 - (y : Int))
/-- the turned pixel, kind 2 -/
def tu2 (ss : List ByteArray) (a b : Nat) (y x : Nat) : Bool := pixI ss (y : Int) (x : Int)
/-- the turned pixel, kind 3 -/
def tu3 (ss : List ByteArray) (a b : Nat) (y x : Nat) : Bool := pixI ss (y : Int) ((b : Int) - 1 - (x : Int))

end Go.Proofs.YthblhibkbcmbaaaDoor

/- Contracts of single functions, and plain lemmas, on which the exact laws of this seat rest; each holds under the conditions that it states. -/
namespace Go.Proofs.YthblhibkbcmbaaaDoor
set_option linter.unusedVariables false
open Go.RowKit

set_option maxHeartbeats 1000000 in
set_option maxRecDepth 100000 in
theorem turnedSpot_0 (C : Array Value) (a b : Nat) (g : Nat → Nat) (x y : Int) (w : World) (hC : C = mat a b g) (ha : a ≤ 16) (hb : b ≤ 16) (hx : 0 ≤ x ∧ x ≤ 16) (hy : 0 ≤ y ∧ y ≤ 16) :
    Calls Tryd.prog 86 #[.agg C, .int .i64 0, .int .i64 x, .int .i64 y] w (fun e w' => e = .returned (.agg #[.int .i64 ((a : Int) - 1 - x), .int .i64 y]) ∧ Below w.heap.size w w') := by
  have hl1 : ((w.alloc (.cells C 59)).alloc (.cells #[.int .i64 0, .int .i64 0] 76)).heap[w.heap.size]? = some (.cells C 59 (0, 0)) := by
    rw [Below.heap_alloc _ _ _ (by simp)]; exact heap_alloc_last w _
  have c0 : ((w.alloc (.cells C 59)).alloc (.cells #[.int .i64 0, .int .i64 0] 76)).cell? ⟨w.heap.size, 0, none⟩ = some (.int .i64 a) := by
    rw [Joins.cell_of_block hl1 0, hC]; rfl
  have c1 : ((w.alloc (.cells C 59)).alloc (.cells #[.int .i64 0, .int .i64 0] 76)).cell? ⟨w.heap.size, 1, none⟩ = some (.int .i64 b) := by
    rw [Joins.cell_of_block hl1 1, hC]; rfl
  obtain ⟨x1, x2⟩ := hx
  obtain ⟨y1, y2⟩ := hy
  clear hl1 hC
  go_enter Tryd.func86, Tryd.ntmps86
  go_wp2
  exact bodyPost_ret (results_cell1 rfl _ _ (w.heap.size + 1) 76 _ (0, 0) _ rfl (heap_alloc2_new _ _ _) Tryd.underlying76 rfl infoSpot) rfl ⟨rfl, Joins.below_alloc2 _ _ _⟩

set_option maxHeartbeats 1000000 in
set_option maxRecDepth 100000 in
theorem turnedSpot_1 (C : Array Value) (a b : Nat) (g : Nat → Nat) (x y : Int) (w : World) (hC : C = mat a b g) (ha : a ≤ 16) (hb : b ≤ 16) (hx : 0 ≤ x ∧ x ≤ 16) (hy : 0 ≤ y ∧ y ≤ 16) :
    Calls Tryd.prog 86 #[.agg C, .int .i64 1, .int .i64 x, .int .i64 y] w (fun e w' => e = .returned (.agg #[.int .i64 x, .int .i64 ((b : Int) - 1 - y)]) ∧ Below w.heap.size w w') := by
  have hl1 : ((w.alloc (.cells C 59)).alloc (.cells #[.int .i64 0, .int .i64 0] 76)).heap[w.heap.size]? = some (.cells C 59 (0, 0)) := by
    rw [Below.heap_alloc _ _ _ (by simp)]; exact heap_alloc_last w _
  have c0 : ((w.alloc (.cells C 59)).alloc (.cells #[.int .i64 0, .int .i64 0] 76)).cell? ⟨w.heap.size, 0, none⟩ = some (.int .i64 a) := by
    rw [Joins.cell_of_block hl1 0, hC]; rfl
  have c1 : ((w.alloc (.cells C 59)).alloc (.cells #[.int .i64 0, .int .i64 0] 76)).cell? ⟨w.heap.size, 1, none⟩ = some (.int .i64 b) := by
    rw [Joins.cell_of_block hl1 1, hC]; rfl
  obtain ⟨x1, x2⟩ := hx
  obtain ⟨y1, y2⟩ := hy
  clear hl1 hC
  go_enter Tryd.func86, Tryd.ntmps86
  go_wp2
  exact bodyPost_ret (results_cell1 rfl _ _ (w.heap.size + 1) 76 _ (0, 0) _ rfl (heap_alloc2_new _ _ _) Tryd.underlying76 rfl infoSpot) rfl ⟨rfl, Joins.below_alloc2 _ _ _⟩

set_option maxHeartbeats 1000000 in
set_option maxRecDepth 100000 in
theorem turnedSpot_2 (C : Array Value) (a b : Nat) (g : Nat → Nat) (x y : Int) (w : World) (hC : C = mat a b g) (ha : a ≤ 16) (hb : b ≤ 16) (hx : 0 ≤ x ∧ x ≤ 16) (hy : 0 ≤ y ∧ y ≤ 16) :
    Calls Tryd.prog 86 #[.agg C, .int .i64 2, .int .i64 x, .int .i64 y] w (fun e w' => e = .returned (.agg #[.int .i64 y, .int .i64 x]) ∧ Below w.heap.size w w') := by
  have hl1 : ((w.alloc (.cells C 59)).alloc (.cells #[.int .i64 0, .int .i64 0] 76)).heap[w.heap.size]? = some (.cells C 59 (0, 0)) := by
    rw [Below.heap_alloc _ _ _ (by simp)]; exact heap_alloc_last w _
  have c0 : ((w.alloc (.cells C 59)).alloc (.cells #[.int .i64 0, .int .i64 0] 76)).cell? ⟨w.heap.size, 0, none⟩ = some (.int .i64 a) := by
    rw [Joins.cell_of_block hl1 0, hC]; rfl
  have c1 : ((w.alloc (.cells C 59)).alloc (.cells #[.int .i64 0, .int .i64 0] 76)).cell? ⟨w.heap.size, 1, none⟩ = some (.int .i64 b) := by
    rw [Joins.cell_of_block hl1 1, hC]; rfl
  obtain ⟨x1, x2⟩ := hx
  obtain ⟨y1, y2⟩ := hy
  clear hl1 hC
  go_enter Tryd.func86, Tryd.ntmps86
  go_wp2
  exact bodyPost_ret (results_cell1 rfl _ _ (w.heap.size + 1) 76 _ (0, 0) _ rfl (heap_alloc2_new _ _ _) Tryd.underlying76 rfl infoSpot) rfl ⟨rfl, Joins.below_alloc2 _ _ _⟩

set_option maxHeartbeats 1000000 in
set_option maxRecDepth 100000 in
theorem turnedSpot_3 (C : Array Value) (a b : Nat) (g : Nat → Nat) (x y : Int) (w : World) (hC : C = mat a b g) (ha : a ≤ 16) (hb : b ≤ 16) (hx : 0 ≤ x ∧ x ≤ 16) (hy : 0 ≤ y ∧ y ≤ 16) :
    Calls Tryd.prog 86 #[.agg C, .int .i64 3, .int .i64 x, .int .i64 y] w (fun e w' => e = .returned (.agg #[.int .i64 y, .int .i64 ((b : Int) - 1 - x)]) ∧ Below w.heap.size w w') := by
  have hl1 : ((w.alloc (.cells C 59)).alloc (.cells #[.int .i64 0, .int .i64 0] 76)).heap[w.heap.size]? = some (.cells C 59 (0, 0)) := by
    rw [Below.heap_alloc _ _ _ (by simp)]; exact heap_alloc_last w _
  have c0 : ((w.alloc (.cells C 59)).alloc (.cells #[.int .i64 0, .int .i64 0] 76)).cell? ⟨w.heap.size, 0, none⟩ = some (.int .i64 a) := by
    rw [Joins.cell_of_block hl1 0, hC]; rfl
  have c1 : ((w.alloc (.cells C 59)).alloc (.cells #[.int .i64 0, .int .i64 0] 76)).cell? ⟨w.heap.size, 1, none⟩ = some (.int .i64 b) := by
    rw [Joins.cell_of_block hl1 1, hC]; rfl
  obtain ⟨x1, x2⟩ := hx
  obtain ⟨y1, y2⟩ := hy
  clear hl1 hC
  go_enter Tryd.func86, Tryd.ntmps86
  go_wp2
  exact bodyPost_ret (results_cell1 rfl _ _ (w.heap.size + 1) 76 _ (0, 0) _ rfl (heap_alloc2_new _ _ _) Tryd.underlying76 rfl infoSpot) rfl ⟨rfl, Joins.below_alloc2 _ _ _⟩
end Go.Proofs.YthblhibkbcmbaaaDoor
