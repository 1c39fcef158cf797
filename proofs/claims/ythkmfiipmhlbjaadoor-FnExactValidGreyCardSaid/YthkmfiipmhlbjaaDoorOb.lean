/- Contracts of single functions, and plain lemmas, on which the exact laws of this seat rest; each holds under the conditions that it states. -/
import Derived.Test.YthkmfiipmhlbjaaDoorOa
import Derived.Deep.QuietTactic
import Derived.BigQuiet
namespace Go.Proofs.YthkmfiipmhlbjaaDoor
set_option linter.unusedVariables false
set_option linter.unusedSimpArgs false
open Go.RowKit

theorem eqI_yes {a b : Int} (h : a = b) : (a == b) = true := beq_iff_eq.2 h
theorem eqI_no {a b : Int} (h : a ≠ b) : (a == b) = false := by simpa using h

end Go.Proofs.YthkmfiipmhlbjaaDoor
