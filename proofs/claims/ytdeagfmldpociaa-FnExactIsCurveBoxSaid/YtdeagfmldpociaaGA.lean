/- Contracts of single functions, and plain lemmas, on which the exact laws of this seat rest; each holds under the conditions that it states. -/
import Derived.Test.YtdeagfmldpociaaV5
import Derived.Test.YtdeagfmldpociaaAL1
import Derived.Test.YtdeagfmldpociaaLib
namespace Go.Proofs.Ytdeagfmldpociaa
set_option linter.unusedVariables false
set_option linter.unusedSimpArgs false
open Go.RowKit

/-! ### rows of numbers as arguments: sizes and copies -/
/-- what the size of rows of rows says -/
def SomeSzR (left : Int) (n : Nat) (f : Nat → List Int) (w : World) (e : Ending) (w' : World) : Prop :=
  ∃ r : Int, e = .returned (.int .i64 r) ∧ r ≤ left ∧ -1 ≤ r ∧ (0 ≤ r → (n : Int) + (offR f n : Nat) ≤ left) ∧ Below w.heap.size w w'

/-! ### copies -/
theorem rep_nil (n : Nat) : List.replicate n (Value.slice none 0 0) = (List.range n).map (fun _ => Value.slice none 0 0) := by
  apply List.ext_getElem?
  intro i
  by_cases h : i < n
  · simp [h]
  · simp [h]

end Go.Proofs.Ytdeagfmldpociaa
