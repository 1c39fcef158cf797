/- Contracts of single functions, and plain lemmas, on which the exact laws of this seat rest; each holds under the conditions that it states. -/
import Derived.Test.YtnmnlbgialolhaaDoorDD
import Derived.Test.YtnmnlbgialolhaaDoorR1
namespace Go.Proofs.YtnmnlbgialolhaaDoor
set_option linter.unusedVariables false
set_option linter.unusedSimpArgs false
open Go.RowKit

/-- what the deferred closure leaves -/
def caughtQ (w : World) (p q : Nat) : World := (((w.alloc (.cells #[.int .i64 0, .int .i64 0] 93)).setCell ⟨p, 0, none⟩ (.int .i64 0)).setCell ⟨p, 1, none⟩ (.int .i64 0)).setCell ⟨q, 0, none⟩ (.bool false)

end Go.Proofs.YtnmnlbgialolhaaDoor
