/- Contracts of single functions, and plain lemmas, on which the exact laws of this seat rest; each holds under the conditions that it states. -/
import Derived.Test.YtabkkpifkkgpeaaDoorSp
import Derived.Test.YtabkkpifkkgpeaaDoorMq
namespace Go.Proofs.YtabkkpifkkgpeaaDoor
set_option linter.unusedVariables false
open Go.RowKit

theorem ret_b {a b : Bool} (h : a = b) : Ending.returned (.bool a) = .returned (.bool b) := by rw [h]

end Go.Proofs.YtabkkpifkkgpeaaDoor
