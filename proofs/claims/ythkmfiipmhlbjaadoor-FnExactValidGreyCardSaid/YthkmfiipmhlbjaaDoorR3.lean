/- Contracts of single functions, and plain lemmas, on which the exact laws of this seat rest; each holds under the conditions that it states. -/
import Derived.Test.YthkmfiipmhlbjaaDoorR2
import Derived.Test.YthkmfiipmhlbjaaDoorOc
import Derived.Deep.MidRow
namespace Go.Proofs.YthkmfiipmhlbjaaDoor
set_option linter.unusedVariables false
set_option linter.unusedSimpArgs false
open Go.RowKit

/-- the table of pixels on the right of steps -/
def rpL : List Value := [.int .i64 0, .int .i64 0, .int .i64 (-1), .int .i64 0, .int .i64 (-1), .int .i64 (-1), .int .i64 0, .int .i64 (-1)]
theorem infoRp : (Tryd.prog.info? 201).map (·.size) = some rpL.length := by kernel_rfl
theorem ixr0 (w : World) : (Instr.index 201 (.agg #[.int .i64 0, .int .i64 0, .int .i64 (-1), .int .i64 0, .int .i64 (-1), .int .i64 (-1), .int .i64 0, .int .i64 (-1)]) (.int .i64 0)).run Tryd.prog w = .ok (.agg #[.int .i64 0, .int .i64 0]) w := by kernel_rfl
theorem ixr1 (w : World) : (Instr.index 201 (.agg #[.int .i64 0, .int .i64 0, .int .i64 (-1), .int .i64 0, .int .i64 (-1), .int .i64 (-1), .int .i64 0, .int .i64 (-1)]) (.int .i64 1)).run Tryd.prog w = .ok (.agg #[.int .i64 (-1), .int .i64 0]) w := by kernel_rfl
theorem ixr2 (w : World) : (Instr.index 201 (.agg #[.int .i64 0, .int .i64 0, .int .i64 (-1), .int .i64 0, .int .i64 (-1), .int .i64 (-1), .int .i64 0, .int .i64 (-1)]) (.int .i64 2)).run Tryd.prog w = .ok (.agg #[.int .i64 (-1), .int .i64 (-1)]) w := by kernel_rfl
theorem ixr3 (w : World) : (Instr.index 201 (.agg #[.int .i64 0, .int .i64 0, .int .i64 (-1), .int .i64 0, .int .i64 (-1), .int .i64 (-1), .int .i64 0, .int .i64 (-1)]) (.int .i64 3)).run Tryd.prog w = .ok (.agg #[.int .i64 0, .int .i64 (-1)]) w := by kernel_rfl

def crV (p : Int → Int → Bool) (x y : Int) : Nat → Bool
  | 0 => p x y
  | 1 => p (x + -1) y
  | 2 => p (x + -1) (y + -1)
  | _ => p x (y + -1)
def crS (p : Int → Int → Bool) (x y : Int) (k : Nat) : Array Value := #[.bool (decide (0 < k) && crV p x y 0), .bool (decide (1 < k) && crV p x y 1), .bool (decide (2 < k) && crV p x y 2), .bool (decide (3 < k) && crV p x y 3)]

theorem crS_at (p : Int → Int → Bool) (x y : Int) {i : Nat} (h : i < 4) : (crS p x y i)[i]? = some (.bool false) := by
  rcases (by omega : i = 0 ∨ i = 1 ∨ i = 2 ∨ i = 3) with rfl | rfl | rfl | rfl <;> rfl
theorem crS_set (p : Int → Int → Bool) (x y : Int) {i : Nat} (h : i < 4) : (crS p x y i).setIfInBounds i (.bool (crV p x y i)) = crS p x y (i + 1) := by
  rcases (by omega : i = 0 ∨ i = 1 ∨ i = 2 ∨ i = 3) with rfl | rfl | rfl | rfl <;> rfl

theorem crS_one (p : Int → Int → Bool) (x y : Int) (k : Nat) : (crS p x y k).all (·.oneCell') = true := by
  unfold crS
  first | rfl | simp [Value.oneCell'] | (generalize (decide (0 < k) && crV p x y 0) = b0; generalize (decide (1 < k) && crV p x y 1) = b1; generalize (decide (2 < k) && crV p x y 2) = b2; generalize (decide (3 < k) && crV p x y 3) = b3; cases b0 <;> cases b1 <;> cases b2 <;> cases b3 <;> rfl)
end Go.Proofs.YthkmfiipmhlbjaaDoor
