/- Contracts of single functions, and plain lemmas, on which the exact laws of this seat rest; each holds under the conditions that it states. -/
import Derived.Test.YtakaglbbcaplhaaDoorY1
import Derived.Test.YtakaglbbcaplhaaDoorY5
import Derived.Test.YtakaglbbcaplhaaDoorY6
import Derived.Test.YtakaglbbcaplhaaDoorQh
import Derived.Test.YtakaglbbcaplhaaDoorSz
namespace Go.Proofs.YtakaglbbcaplhaaDoor
set_option linter.unusedVariables false
set_option linter.unusedSimpArgs false
open Go.RowKit

noncomputable def siV (ss : List ByteArray) (x y : Int) (e8 : Bool) : Bool := validB ss && (pixI ss x y && simN (pixI ss) x y e8)

end Go.Proofs.YtakaglbbcaplhaaDoor

/- Contracts of single functions, and plain lemmas, on which the exact laws of this seat rest; each holds under the conditions that it states. -/
namespace Go.Proofs.YtakaglbbcaplhaaDoor
set_option linter.unusedVariables false
set_option linter.unusedSimpArgs false
open Go.RowKit

theorem si_eq (ss : List ByteArray) (x y : Int) (e8 : Bool) : siV ss x y e8 = siI ss x y e8 := by
  unfold siV siI
  rw [simN_eq]

end Go.Proofs.YtakaglbbcaplhaaDoor
