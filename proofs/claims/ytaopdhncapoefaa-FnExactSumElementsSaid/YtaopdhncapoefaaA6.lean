/- Contracts of single functions, and plain lemmas, on which the exact laws of this seat rest; each holds under the conditions that it states. -/
import Derived.Test.YtaopdhncapoefaaA5
import Derived.Test.YtaopdhncapoefaaQi
import Derived.Test.YtaopdhncapoefaaBq
namespace Go.Proofs.Ytaopdhncapoefaa
set_option linter.unusedVariables false
set_option linter.unusedSimpArgs false
open Go.RowKit

theorem sq_same (n : Nat) (h : 1 ≤ n ∧ n ≤ 5) : grL n 0 (fun _ _ => true) (n * n) = elL (sqF n) := by
  obtain ⟨h1, h2⟩ := h
  rcases (by omega : n = 1 ∨ n = 2 ∨ n = 3 ∨ n = 4 ∨ n = 5) with rfl | rfl | rfl | rfl | rfl <;> decide +kernel

end Go.Proofs.Ytaopdhncapoefaa
