/- Contracts of single functions, and plain lemmas, on which the exact laws of this seat rest; each holds under the conditions that it states. -/
import Derived.Test.YtelakopkpmkdcaaRt
namespace Go.Proofs.Ytelakopkpmkdcaa
set_option linter.unusedVariables false
open Go.RowKit

end Go.Proofs.Ytelakopkpmkdcaa
