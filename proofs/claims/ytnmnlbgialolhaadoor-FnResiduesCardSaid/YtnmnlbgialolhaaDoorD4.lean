/- Contracts of single functions, and plain lemmas, on which the exact laws of this seat rest; each holds under the conditions that it states. -/
import Derived.Test.YtnmnlbgialolhaaDoorD3
import Derived.RegionDies
namespace Go.Proofs.YtnmnlbgialolhaaDoor
set_option linter.unusedVariables false
set_option linter.unusedSimpArgs false
open Go.RowKit
attribute [local go_sem] Oper.semAt_some

/-- two spots and a kind in variables -/
def FsAt (W : World) (pa pb pk : Nat) (k ax ay bx b_y : Int) : Prop :=
  (W.cell? ⟨pa, 0, none⟩ = some (.int .i64 ax) ∧ W.cell? ⟨pa, 1, none⟩ = some (.int .i64 ay)) ∧ (W.cell? ⟨pb, 0, none⟩ = some (.int .i64 bx) ∧ W.cell? ⟨pb, 1, none⟩ = some (.int .i64 b_y)) ∧ W.cell? ⟨pk, 0, none⟩ = some (.int .i64 k)
theorem FsAt.below {w W : World} {pa pb pk : Nat} {k ax ay bx b_y : Int} (h : FsAt w pa pb pk k ax ay bx b_y) (hb : Below w.heap.size w W) : FsAt W pa pb pk k ax ay bx b_y :=
  ⟨⟨cell_kept hb h.1.1, cell_kept hb h.1.2⟩, ⟨cell_kept hb h.2.1.1, cell_kept hb h.2.1.2⟩, cell_kept hb h.2.2⟩

end Go.Proofs.YtnmnlbgialolhaaDoor
