/- Contracts of single functions, and plain lemmas, on which the exact laws of this seat rest; each holds under the conditions that it states. -/
import Derived.Test.YthoffbibaimjlaaDoorD1
import Derived.Test.YthoffbibaimjlaaDoorPb
import Derived.Defers
import Derived.Recover
import Derived.WalkLawsBesides
import Derived.Test.YthoffbibaimjlaaDoorQh
import Derived.BigRegion
namespace Go.Proofs.YthoffbibaimjlaaDoor
set_option linter.unusedVariables false
set_option linter.unusedSimpArgs false
open Go.RowKit

def nearB (x y : Int) : Bool := inB x (-1) 16 && inB y (-1) 16
theorem nearB_small {x y : Int} (h : nearB x y = true) : Small x ∧ Small y := by
  unfold nearB inB at h
  unfold Small
  simp at h
  omega
def fsOk (k ax ay bx b_y : Int) : Bool := inB k 0 2 && (nearB ax ay && nearB bx b_y)

end Go.Proofs.YthoffbibaimjlaaDoor

/- Contracts of single functions, and plain lemmas, on which the exact laws of this seat rest; each holds under the conditions that it states. -/
namespace Go.Proofs.YthoffbibaimjlaaDoor
set_option linter.unusedVariables false
set_option linter.unusedSimpArgs false
open Go.RowKit
attribute [local go_sem] Oper.semAt_some

def fsV (k ax ay bx b_y : Int) : Int := if fsOk k ax ay bx b_y = true then farI k ax ay bx b_y else 0
/-- a number and a bool -/
def SaysIOk (v : Int) (ok : Bool) (w : World) (e : Ending) (w' : World) : Prop := e = .returned (.tuple #[.int .i64 v, .bool ok]) ∧ Below w.heap.size w w'

end Go.Proofs.YthoffbibaimjlaaDoor
