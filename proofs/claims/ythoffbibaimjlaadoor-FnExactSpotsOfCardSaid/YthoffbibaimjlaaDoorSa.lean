/- Contracts of single functions, and plain lemmas, on which the exact laws of this seat rest; each holds under the conditions that it states. -/
import Derived.Test.YthoffbibaimjlaaDoorSp
import Derived.Test.YthoffbibaimjlaaDoorLf
namespace Go.Proofs.YthoffbibaimjlaaDoor
set_option linter.unusedVariables false
open Go.RowKit

/-- a shifted pixel -/
def shF (ss : List ByteArray) (dx dy : Int) (y x : Nat) : Bool := pixI ss ((x : Int) - dx) ((y : Int) - dy)

end Go.Proofs.YthoffbibaimjlaaDoor
