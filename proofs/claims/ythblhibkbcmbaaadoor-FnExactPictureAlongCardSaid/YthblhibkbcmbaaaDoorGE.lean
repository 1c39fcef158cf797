/- Contracts of single functions, and plain lemmas, on which the exact laws of this seat rest; each holds under the conditions that it states. -/
import Derived.Test.YthblhibkbcmbaaaDoorGD
import Derived.Test.YthblhibkbcmbaaaDoorR1
namespace Go.Proofs.YthblhibkbcmbaaaDoor
set_option linter.unusedVariables false
set_option linter.unusedSimpArgs false
open Go.RowKit

/-- rows that are valid come back as they are; others are given up -/
def ReqRows (m : Int) (gs : List (List Int)) (v : Value) (w : World) (e : Ending) (w' : World) : Prop :=
  ((vG m gs = true ∧ e = .returned v) ∨ (vG m gs = false ∧ ∃ T x, e = .panicked [{ v := .iface T x, recovered := false }])) ∧ Below w.heap.size w w'

end Go.Proofs.YthblhibkbcmbaaaDoor
