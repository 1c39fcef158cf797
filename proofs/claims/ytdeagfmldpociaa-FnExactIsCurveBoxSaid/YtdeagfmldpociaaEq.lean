/- Contracts of single functions, and plain lemmas, on which the exact laws of this seat rest; each holds under the conditions that it states. -/
import Derived.Test.YtdeagfmldpociaaLib
namespace Go.Proofs.Ytdeagfmldpociaa
set_option linter.unusedVariables false
open Go.RowKit

theorem str_ne {s t : ByteArray} (h : s ≠ t) : (s.toList == t.toList) = false := by
  rw [beq_eq_false_iff_ne, ByteArray.toList_eq, ByteArray.toList_eq]
  exact fun e => h (WideShapes.bytes_inj e)

def sameL (xs ys : List ByteArray) : Bool := decide (xs = ys)

theorem sameL_no {xs ys : List ByteArray} {k : Nat} (h : xs.getD k ByteArray.empty ≠ ys.getD k ByteArray.empty) : sameL xs ys = false := by
  unfold sameL
  rw [decide_eq_false_iff_not]
  intro e; exact h (by rw [e])

theorem sameL_yes {xs ys : List ByteArray} {n : Nat} (ha : xs.length = n) (hb : ys.length = n) (h : ∀ j, j < n → xs.getD j ByteArray.empty = ys.getD j ByteArray.empty) : sameL xs ys = true := by
  unfold sameL
  rw [decide_eq_true_iff]
  apply List.ext_getElem (by omega)
  intro i h1 h2
  have := h i (by omega)
  rwa [List.getD_eq_getElem?_getD, List.getD_eq_getElem?_getD, List.getElem?_eq_getElem h1, List.getElem?_eq_getElem h2] at this

/-- an ending that answers b, with no more than new blocks -/
def SaysB (b : Bool) (w : World) (e : Ending) (w' : World) : Prop := e = .returned (.bool b) ∧ Below w.heap.size w w'

end Go.Proofs.Ytdeagfmldpociaa
