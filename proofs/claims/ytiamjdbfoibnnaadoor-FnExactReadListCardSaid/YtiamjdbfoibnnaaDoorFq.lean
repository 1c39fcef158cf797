/- What the frames of the laws that read decimals share: the library's two errors of strconv, as the row lays them. -/
import Derived.Test.YtiamjdbfoibnnaaDoorFo
import Derived.Test.YtiamjdbfoibnnaaDoorEc
namespace Go.Proofs.YtiamjdbfoibnnaaDoor
open Go.ChangeShapes Go.WideShapes Go.ChangeAt Go.RowKit Go.Deep Go.WideElems
set_option linter.unusedVariables false
theorem gSyn : Tryd.prog.globalNamed "strconv.ErrSyntax" = some 2 := by kernel_rfl
theorem tSyn : (Tryd.prog.globals[2]?).map (·.type) = some 44 := by kernel_rfl
theorem gRan : Tryd.prog.globalNamed "strconv.ErrRange" = some 3 := by kernel_rfl
theorem tRan : (Tryd.prog.globals[3]?).map (·.type) = some 44 := by kernel_rfl
theorem starName : "*" ++ "errors.errorString" = "*errors.errorString" := by decide
theorem rowErr (u : TypeId) (h : Tryd.prog.typeName? 3 u = some "*errors.errorString") : u = 96 :=
  typeName_ptr_named (nm := "errors.errorString") (by rw [starName]; kernel_rfl) (by kernel_rfl) (by decide) u (by rw [starName]; exact h)
theorem cellsErr : Tryd.prog.cellsOf 98 = 1 := by kernel_rfl
theorem cellsStr : Tryd.prog.cellsOf 9 = 1 := by kernel_rfl
theorem errVar_syn {W : World} {x : Value} {tp : TypeId} (h : W.var? Tryd.prog "strconv.ErrSyntax" = some #[.iface tp x]) : ErrVar W 2 := ⟨_, by simpa using World.var?_cell gSyn h 0, Or.inr ⟨_, _, rfl⟩⟩
theorem errVar_ran {W : World} {x : Value} {tp : TypeId} (h : W.var? Tryd.prog "strconv.ErrRange" = some #[.iface tp x]) : ErrVar W 3 := ⟨_, by simpa using World.var?_cell gRan h 0, Or.inr ⟨_, _, rfl⟩⟩
end Go.Proofs.YtiamjdbfoibnnaaDoor
