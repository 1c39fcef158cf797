/- Contracts of single functions, and plain lemmas, on which the exact laws of this seat rest; each holds under the conditions that it states. -/
import Derived.Test.YtnmnlbgialolhaaDoorPb
import Derived.Defers
import Derived.Recover
import Derived.WalkLawsBesides
namespace Go.Proofs.YtnmnlbgialolhaaDoor
set_option linter.unusedVariables false
set_option linter.unusedSimpArgs false
open Go.RowKit

/-- the error that work is given up with -/
def NoRes (w : World) : Prop := ∃ T x, w.cell? ⟨1, 0, none⟩ = some (.iface T x)
theorem NoRes.below {w w' : World} (h : NoRes w) (hb : Below w.heap.size w w') : NoRes w' := by
  obtain ⟨T, x, h⟩ := h
  exact ⟨T, x, cell_kept hb h⟩

set_option maxHeartbeats 1000000 in
set_option maxRecDepth 100000 in
theorem require_yes (w : World) : Calls Tryd.prog 68 #[.bool true] w fun e w' => e = .returned (.tuple #[]) ∧ w' = w := by
  go_enter Tryd.func68, Tryd.ntmps68
  go_wp2
  first | (go_end0; exact ⟨rfl, rfl⟩) | (refine bodyPost_ret (results_none rfl _ _ _) rfl ?_; exact ⟨rfl, rfl⟩)

set_option maxHeartbeats 1000000 in
set_option maxRecDepth 100000 in
theorem require_no (w : World) (h : NoRes w) : Calls Tryd.prog 68 #[.bool false] w fun e w' => ∃ T x, e = .panicked [{ v := .iface T x, recovered := false }] ∧ w' = w := by
  obtain ⟨T, x, hc⟩ := h
  go_enter Tryd.func68, Tryd.ntmps68
  go_wp2
  exact ⟨rfl, T, x, rfl, rfl⟩
end Go.Proofs.YtnmnlbgialolhaaDoor
