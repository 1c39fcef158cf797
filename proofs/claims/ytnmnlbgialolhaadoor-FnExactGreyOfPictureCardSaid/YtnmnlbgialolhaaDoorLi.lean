/- Contracts of single functions, and plain lemmas, on which the exact laws of this seat rest; each holds under the conditions that it states. -/
import Derived.Test.YtnmnlbgialolhaaDoorPb
import Derived.Test.YtnmnlbgialolhaaDoorMq
namespace Go.Proofs.YtnmnlbgialolhaaDoor
set_option linter.unusedVariables false
open Go.RowKit

theorem ret_b {a b : Bool} (h : a = b) : Ending.returned (.bool a) = .returned (.bool b) := by rw [h]

end Go.Proofs.YtnmnlbgialolhaaDoor

/- Contracts of single functions, and plain lemmas, on which the exact laws of this seat rest; each holds under the conditions that it states. -/
namespace Go.Proofs.YtnmnlbgialolhaaDoor
set_option linter.unusedVariables false
open Go.RowKit

/-- what is true in one list is true in the other one -/
def subB (xs ys : List Bool) : Bool := (List.range xs.length).all fun i => !(xs.getD i false && !ys.getD i false)
theorem subB_no {xs ys : List Bool} {i : Nat} (hi : i < xs.length) (h1 : xs.getD i false = true) (h2 : ys.getD i false = false) : subB xs ys = false := by
  unfold subB
  rw [List.all_eq_false]
  exact ⟨i, List.mem_range.2 hi, by rw [h1, h2]; decide⟩
theorem subB_yes {xs ys : List Bool} (h : ∀ i, i < xs.length → (xs.getD i false = true → ys.getD i false = true)) : subB xs ys = true := by
  unfold subB
  rw [List.all_eq_true]
  intro i hi
  have := h i (List.mem_range.1 hi)
  cases hx : xs.getD i false with
  | false => rfl
  | true => rw [this hx]; rfl

/-- one picture is inside the other one -/
def insideP (ss tt : List ByteArray) : Bool := likeB ss tt && subB (pixL ss (row0 ss).size ((row0 ss).size * ss.length)) (pixL tt (row0 ss).size ((row0 ss).size * ss.length))

end Go.Proofs.YtnmnlbgialolhaaDoor
