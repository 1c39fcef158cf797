/- Contracts of single functions, and plain lemmas, on which the exact laws of this seat rest; each holds under the conditions that it states. -/
import Derived.Test.YthoffbibaimjlaaDoorSa
namespace Go.Proofs.YthoffbibaimjlaaDoor
set_option linter.unusedVariables false
open Go.RowKit

def shOk (ss : List ByteArray) (dx dy : Int) : Bool := validB ss && inB dx (-16) 16 && inB dy (-16) 16
def shP (ss : List ByteArray) (dx dy : Int) : List ByteArray := if shOk ss dx dy then mkPic (row0 ss).size ss.length (shF ss dx dy) else []

end Go.Proofs.YthoffbibaimjlaaDoor
