/- Contracts of single functions, and plain lemmas, on which the exact laws of this seat rest; each holds under the conditions that it states. -/
import Derived.Test.YtnmnlbgialolhaaDoorCVD
import Derived.Test.YtnmnlbgialolhaaDoorRI
namespace Go.Proofs.YtnmnlbgialolhaaDoor
set_option linter.unusedVariables false
set_option linter.unusedSimpArgs false
open Go.RowKit
attribute [local go_sem] Oper.semAt_some

/-- three numbers in variables -/
def At3 (W : World) (pc pn pi : Nat) (c n i : Int) : Prop :=
  W.cell? ⟨pc, 0, none⟩ = some (.int .i64 c) ∧ W.cell? ⟨pn, 0, none⟩ = some (.int .i64 n) ∧ W.cell? ⟨pi, 0, none⟩ = some (.int .i64 i)
theorem At3.kept {w W : World} {pc pn pi : Nat} {c n i : Int} (h : At3 w pc pn pi c n i) (hb : Below w.heap.size w W) : At3 W pc pn pi c n i :=
  ⟨cell_kept hb h.1, cell_kept hb h.2.1, cell_kept hb h.2.2⟩

end Go.Proofs.YtnmnlbgialolhaaDoor
