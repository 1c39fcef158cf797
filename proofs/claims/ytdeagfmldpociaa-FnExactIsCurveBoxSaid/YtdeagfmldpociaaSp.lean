/- Contracts of single functions, and plain lemmas, on which the exact laws of this seat rest; each holds under the conditions that it states. -/
import Derived.Test.YtdeagfmldpociaaSv
namespace Go.Proofs.Ytdeagfmldpociaa
set_option linter.unusedVariables false
open Go.RowKit

def insB (a b x y : Int) : Bool := inB x 0 (a - 1) && inB y 0 (b - 1)

/-- is the pixel x, y black; outside all are white -/
def pixI (ss : List ByteArray) (x y : Int) : Bool := insB (row0 ss).size ss.length x y && blackAt (ss.getD y.toNat ByteArray.empty) x.toNat

end Go.Proofs.Ytdeagfmldpociaa
