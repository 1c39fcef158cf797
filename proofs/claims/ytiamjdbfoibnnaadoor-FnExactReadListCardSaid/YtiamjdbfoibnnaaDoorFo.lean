/- What the frames of the laws over decimals share: the library's table of powers of ten, as the row lays it. -/
import Derived.Test.YtiamjdbfoibnnaaDoorRows
import Derived.Test.YtiamjdbfoibnnaaDoorLib
import Derived.ProofKit
import Derived.OpenShut
import Derived.ShutString
import Derived.ChangeOld
import Derived.LaidMore
import Derived.LaidLaws
import Derived.LaidHandle
import Derived.Stop.LaidErr
import Derived.WalkSmall
import Derived.Stop.Joined
import Derived.ChangeVars
import Derived.Lib.LaidTab
import Derived.Lib.ItoaNum
namespace Go.Proofs.YtiamjdbfoibnnaaDoor
open Go.ChangeShapes Go.WideShapes Go.ChangeAt Go.RowKit Go.Deep Go.WideElems
open Go.ChangeMaps (open_string shut_string)
set_option linter.unusedVariables false

theorem own : ownKnob Tryd.prog.godebug = none := by kernel_rfl
theorem laidOut : laidOutB Tryd.prog = true := by kernel_rfl
theorem gPow : Tryd.prog.globalNamed "internal/strconv.uint64pow10" = some 1 := by kernel_rfl
theorem tPow : (Tryd.prog.globals[1]?).map (·.type) = some 80 := by kernel_rfl
theorem pow_at {W : World} (h : Lib.TabIs Tryd.prog W "internal/strconv.uint64pow10" .u64 Lib.pow10Tab) : ∀ W2, Below W.heap.size W W2 → Lib.TabIs Tryd.prog W2 "internal/strconv.uint64pow10" .u64 Lib.pow10Tab := fun W2 hb => by
  have hc : W.cell? ⟨1, 0, none⟩ = some (.int .u64 1) := (World.var?_cell gPow h 0).trans rfl
  exact var?_below hb gPow (World.block_lt_of_cell? W _ hc) h
end Go.Proofs.YtiamjdbfoibnnaaDoor
