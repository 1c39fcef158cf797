/- Contracts of single functions, and plain lemmas, on which the exact laws of this seat rest; each holds under the conditions that it states. -/
import Derived.Test.YthblhibkbcmbaaaDoorCVP
import Derived.Test.YthblhibkbcmbaaaDoorGD
import Derived.Deep.RegionHeld3
import Derived.Deep.DeepCutAuto
namespace Go.Proofs.YthblhibkbcmbaaaDoor
set_option linter.unusedVariables false
set_option linter.unusedSimpArgs false
open Go.RowKit
attribute [local go_sem] Oper.semAt_some

/-! ### the intervals of a box -/
def ivOk (c n ax ay bx b_y : Int) : Bool := (inB c 0 3 && inB n 0 4) && boxOk n ax ay bx b_y
def ivV (c n ax ay bx b_y : Int) : List (List Int) := if ivOk c n ax ay bx b_y = true then ivL (bxF c.toNat n.toNat ax ay bx b_y) (cvF c.toNat n.toNat).length else []
/-- rows of the call's own and a bool handed back -/
def SaysRR (xss : List (List Int)) (ok : Bool) (w : World) (e : Ending) (w' : World) : Prop := ∃ v us, e = .returned (.tuple #[v, .bool ok]) ∧ OwnL w' w.heap.size w'.heap.size v us xss ∧ Below w.heap.size w w'

/-- the arguments in variables -/
def At4 (W : World) (pc pn pf pt : Nat) (c n ax ay bx b_y : Int) : Prop :=
  W.cell? ⟨pc, 0, none⟩ = some (.int .i64 c) ∧ W.cell? ⟨pn, 0, none⟩ = some (.int .i64 n) ∧ W.cell? ⟨pf, 0, none⟩ = some (.int .i64 ax) ∧ W.cell? ⟨pf, 1, none⟩ = some (.int .i64 ay) ∧ W.cell? ⟨pt, 0, none⟩ = some (.int .i64 bx) ∧ W.cell? ⟨pt, 1, none⟩ = some (.int .i64 b_y)
theorem At4.kept {w W : World} {pc pn pf pt : Nat} {c n ax ay bx b_y : Int} (h : At4 w pc pn pf pt c n ax ay bx b_y) (hb : Below w.heap.size w W) : At4 W pc pn pf pt c n ax ay bx b_y :=
  ⟨cell_kept hb h.1, cell_kept hb h.2.1, cell_kept hb h.2.2.1, cell_kept hb h.2.2.2.1, cell_kept hb h.2.2.2.2.1, cell_kept hb h.2.2.2.2.2⟩

end Go.Proofs.YthblhibkbcmbaaaDoor
