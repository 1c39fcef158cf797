/- Contracts of single functions, and plain lemmas, on which the exact laws of this seat rest; each holds under the conditions that it states. -/
import Derived.Test.YthoffbibaimjlaaDoorA2
import Derived.Test.YthoffbibaimjlaaDoorBq
namespace Go.Proofs.YthoffbibaimjlaaDoor
set_option linter.unusedVariables false
set_option linter.unusedSimpArgs false
open Go.RowKit

/-- an element and a bool handed back -/
def SaysElB (xs : List (Int × Int)) (ok : Bool) (w : World) (e : Ending) (w' : World) : Prop :=
  ∃ ao n cap, e = .returned (.tuple #[.agg #[.slice ao n cap], .bool ok]) ∧ OwnS w' w.heap.size (.slice ao n cap) xs ∧ Below w.heap.size w w'

/-- the rule of a square -/
def sqF (size x y : Int) : Bool := decide (0 ≤ min x y) && decide (max x y < size)

end Go.Proofs.YthoffbibaimjlaaDoor
