/- Contracts of single functions, and plain lemmas, on which the exact laws of this seat rest; each holds under the conditions that it states. -/
import Derived.Test.YtakaglbbcaplhaaDoorOb
import Derived.Test.YtakaglbbcaplhaaDoorBl
import Derived.Deep.RegionHeld3
import Derived.Deep.RegionWith
import Derived.StillTailTactics
import Derived.Test.YtakaglbbcaplhaaDoorR2
import Derived.Deep.MidRow
namespace Go.Proofs.YtakaglbbcaplhaaDoor
set_option linter.unusedVariables false
set_option linter.unusedSimpArgs false
open Go.RowKit

theorem plus_any (x y a b : Int) (w : World) (h1 : -100 ≤ x ∧ x ≤ 100) (h2 : -100 ≤ y ∧ y ≤ 100) (h3 : -100 ≤ a ∧ a ≤ 100) (h4 : -100 ≤ b ∧ b ≤ 100) :
    Calls Tryd.prog 131 #[.agg #[.int .i64 x, .int .i64 y], .agg #[.int .i64 a, .int .i64 b]] w fun e w' => e = .returned (.agg #[.int .i64 (x + a), .int .i64 (y + b)]) ∧ Below w.heap.size w w' := by
  go_enter Tryd.func131, Tryd.ntmps131
  go_wp2
  exact bodyPost_ret (v := .agg #[.int .i64 (x + a), .int .i64 (y + b)]) (by simp [results, Tryd.results131, go_sem]) rfl ⟨rfl, Joins.below_alloc3 w _ _ _⟩

end Go.Proofs.YtakaglbbcaplhaaDoor

/- Contracts of single functions, and plain lemmas, on which the exact laws of this seat rest; each holds under the conditions that it states. -/
namespace Go.Proofs.YtakaglbbcaplhaaDoor
set_option linter.unusedVariables false
set_option linter.unusedSimpArgs false
open Go.RowKit

/-- the table of pixels on the right of steps -/
def rpL : List Value := [.int .i64 0, .int .i64 0, .int .i64 (-1), .int .i64 0, .int .i64 (-1), .int .i64 (-1), .int .i64 0, .int .i64 (-1)]
def crV (p : Int → Int → Bool) (x y : Int) : Nat → Bool
  | 0 => p x y
  | 1 => p (x + -1) y
  | 2 => p (x + -1) (y + -1)
  | _ => p x (y + -1)
def crS (p : Int → Int → Bool) (x y : Int) (k : Nat) : Array Value := #[.bool (decide (0 < k) && crV p x y 0), .bool (decide (1 < k) && crV p x y 1), .bool (decide (2 < k) && crV p x y 2), .bool (decide (3 < k) && crV p x y 3)]

theorem crS_at (p : Int → Int → Bool) (x y : Int) {i : Nat} (h : i < 4) : (crS p x y i)[i]? = some (.bool false) := by
  rcases (by omega : i = 0 ∨ i = 1 ∨ i = 2 ∨ i = 3) with rfl | rfl | rfl | rfl <;> rfl
theorem crS_set (p : Int → Int → Bool) (x y : Int) {i : Nat} (h : i < 4) : (crS p x y i).setIfInBounds i (.bool (crV p x y i)) = crS p x y (i + 1) := by
  rcases (by omega : i = 0 ∨ i = 1 ∨ i = 2 ∨ i = 3) with rfl | rfl | rfl | rfl <;> rfl

theorem crS_one (p : Int → Int → Bool) (x y : Int) (k : Nat) : (crS p x y k).all (·.oneCell') = true := by
  unfold crS
  first | rfl | simp [Value.oneCell'] | (generalize (decide (0 < k) && crV p x y 0) = b0; generalize (decide (1 < k) && crV p x y 1) = b1; generalize (decide (2 < k) && crV p x y 2) = b2; generalize (decide (3 < k) && crV p x y 3) = b3; cases b0 <;> cases b1 <;> cases b2 <;> cases b3 <;> rfl)
end Go.Proofs.YtakaglbbcaplhaaDoor
