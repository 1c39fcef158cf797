/- Contracts of single functions, and plain lemmas, on which the exact laws of this seat rest; each holds under the conditions that it states. -/
import Derived.Test.YtnmnlbgialolhaaDoorPb
import Derived.Test.YtnmnlbgialolhaaDoorLf
namespace Go.Proofs.YtnmnlbgialolhaaDoor
set_option linter.unusedVariables false
open Go.RowKit

/-- a shifted pixel -/
def shF (ss : List ByteArray) (dx dy : Int) (y x : Nat) : Bool := pixI ss ((x : Int) - dx) ((y : Int) - dy)

end Go.Proofs.YtnmnlbgialolhaaDoor

/- Contracts of single functions, and plain lemmas, on which the exact laws of this seat rest; each holds under the conditions that it states. -/
namespace Go.Proofs.YtnmnlbgialolhaaDoor
set_option linter.unusedVariables false
open Go.RowKit

def shOk (ss : List ByteArray) (dx dy : Int) : Bool := validB ss && inB dx (-16) 16 && inB dy (-16) 16
def shP (ss : List ByteArray) (dx dy : Int) : List ByteArray := if shOk ss dx dy then mkPic (row0 ss).size ss.length (shF ss dx dy) else []

end Go.Proofs.YtnmnlbgialolhaaDoor
