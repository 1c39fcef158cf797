/- Contracts of single functions, and plain lemmas, on which the exact laws of this seat rest; each holds under the conditions that it states. -/
import Derived.Test.YtnmnlbgialolhaaDoorMq
namespace Go.Proofs.YtnmnlbgialolhaaDoor
set_option linter.unusedVariables false
set_option linter.unusedSimpArgs false
open Go.RowKit

def NoMats (w : World) (e : Ending) (w' : World) : Prop := e = .returned (.tuple #[.agg zeros, .agg zeros, .bool false]) ∧ Below w.heap.size w w'

end Go.Proofs.YtnmnlbgialolhaaDoor
