/- Contracts of single functions, and plain lemmas, on which the exact laws of this seat rest; each holds under the conditions that it states. -/
import Derived.Test.YtnmnlbgialolhaaDoorDB
import Derived.Test.YtnmnlbgialolhaaDoorR3
import Derived.Test.YtnmnlbgialolhaaDoorRI
import Derived.BigRegion
namespace Go.Proofs.YtnmnlbgialolhaaDoor
set_option linter.unusedVariables false
set_option linter.unusedSimpArgs false
open Go.RowKit
attribute [local go_sem] Oper.semAt_some

def ptr0 (b : Nat) : Value := .pointer (some ⟨b, 0, none⟩)
end Go.Proofs.YtnmnlbgialolhaaDoor
