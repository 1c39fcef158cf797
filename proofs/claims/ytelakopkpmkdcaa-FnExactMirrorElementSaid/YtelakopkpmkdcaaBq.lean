/- Contracts of single functions, and plain lemmas, on which the exact laws of this seat rest; each holds under the conditions that it states. -/
import Derived.Test.YtelakopkpmkdcaaBk
namespace Go.Proofs.Ytelakopkpmkdcaa
set_option linter.unusedVariables false
open Go.RowKit

/-- a variable of the call's own is kept while an owned row of another type grows -/
theorem var_grown {w w' : World} {base2 n2 s2 P : Nat} {e2 t : TypeId} {v2 : Value} {cs : Array Value} {xs2 : List Value} (h : w.heap[P]? = some (.cells cs t (0, 0))) (h2 : w.ownsRow base2 e2 s2 v2 n2 xs2) (he : t ≠ e2) (hg : w.grownBy w' v2.ownBlock) : w'.heap[P]? = some (.cells cs t (0, 0)) := var_far h h2 he hg

theorem marks_bound {P : List ByteArray} (h : P.length ≤ 1048576) : 1 + P.length ≤ 9000000 := by omega
end Go.Proofs.Ytelakopkpmkdcaa
