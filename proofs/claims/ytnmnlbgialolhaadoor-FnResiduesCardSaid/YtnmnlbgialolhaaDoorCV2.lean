/- Contracts of single functions, and plain lemmas, on which the exact laws of this seat rest; each holds under the conditions that it states. -/
import Derived.Test.YtnmnlbgialolhaaDoorCV5
import Derived.Test.YtnmnlbgialolhaaDoorD1
import Derived.BigQuiet
import Derived.Deep.QuietTactic
namespace Go.Proofs.YtnmnlbgialolhaaDoor
set_option linter.unusedVariables false
set_option linter.unusedSimpArgs false
open Go.RowKit
attribute [local go_sem] Oper.semAt_some

def isInB (d fx fy tx ty : Int) : Bool := hasB d d fx fy && (hasB d d tx ty && (inB tx fx tx && inB ty fy ty))
/-! ### a box of an order -/
def boxB (d fx fy tx ty : Int) : Bool := inB fx 0 (d - 1) && (inB fy 0 (d - 1) && (inB tx fx (d - 1) && inB ty fy (d - 1)))
def boxOk (n fx fy tx ty : Int) : Bool := inB n 0 4 && boxB (sd n) fx fy tx ty
theorem isInB_box (d fx fy tx ty : Int) : isInB d fx fy tx ty = boxB d fx fy tx ty := by
  rw [Bool.eq_iff_iff]
  unfold isInB boxB hasB inB
  simp only [Bool.and_eq_true, decide_eq_true_eq]
  omega

end Go.Proofs.YtnmnlbgialolhaaDoor
