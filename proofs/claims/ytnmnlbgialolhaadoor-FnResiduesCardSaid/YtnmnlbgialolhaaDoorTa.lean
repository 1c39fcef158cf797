/- Contracts of single functions, and plain lemmas, on which the exact laws of this seat rest; each holds under the conditions that it states. -/
import Derived.Test.YtnmnlbgialolhaaDoorPb
import Derived.Test.YtnmnlbgialolhaaDoorSc
namespace Go.Proofs.YtnmnlbgialolhaaDoor
set_option linter.unusedVariables false
open Go.RowKit

/-- the turned pixel, kind 0 -/
def tu0 (ss : List ByteArray) (a b : Nat) (y x : Nat) : Bool := pixI ss ((a : Int) - 1 - (x : Int)) (y : Int)
/-- the turned pixel, kind 1 -/
def tu1 (ss : List ByteArray) (a b : Nat) (y x : Nat) : Bool := pixI ss (x : Int) ((b : Int) - 1 - (y : Int))
/-- the turned pixel, kind 2 -/
def tu2 (ss : List ByteArray) (a b : Nat) (y x : Nat) : Bool := pixI ss (y : Int) (x : Int)
/-- the turned pixel, kind 3 -/
def tu3 (ss : List ByteArray) (a b : Nat) (y x : Nat) : Bool := pixI ss (y : Int) ((b : Int) - 1 - (x : Int))

end Go.Proofs.YtnmnlbgialolhaaDoor
