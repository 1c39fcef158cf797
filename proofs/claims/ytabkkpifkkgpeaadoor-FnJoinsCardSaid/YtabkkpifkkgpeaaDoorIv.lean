/- Contracts of single functions, and plain lemmas, on which the exact laws of this seat rest; each holds under the conditions that it states. -/
import Derived.Test.YtabkkpifkkgpeaaDoorMp
import Derived.Test.YtabkkpifkkgpeaaDoorSp
import Derived.Test.YtabkkpifkkgpeaaDoorLt
import Derived.Test.YtabkkpifkkgpeaaDoorSs
namespace Go.Proofs.YtabkkpifkkgpeaaDoor
set_option linter.unusedVariables false
open Go.RowKit

/-- the first i are turned -/
def mixB (l : List Bool) (i : Nat) : List Bool := (List.range l.length).map fun j => if j < i then !l.getD j false else l.getD j false
theorem mixB_len (l : List Bool) (i : Nat) : (mixB l i).length = l.length := by simp [mixB]
theorem mixB_at (l : List Bool) (i j : Nat) (hj : j < l.length) : (mixB l i)[j]? = some (if j < i then !l.getD j false else l.getD j false) := by
  simp [mixB, hj]
theorem mixB_zero (l : List Bool) : mixB l 0 = l := by
  apply List.ext_getElem?
  intro j
  by_cases hj : j < l.length
  · rw [mixB_at l 0 j hj, if_neg (by omega), List.getD_eq_getElem?_getD, List.getElem?_eq_getElem hj]; rfl
  · rw [List.getElem?_eq_none (by rw [mixB_len]; omega), List.getElem?_eq_none (by omega)]
theorem mixB_set (l : List Bool) (i : Nat) (hi : i < l.length) : (mixB l i).set i (!l.getD i false) = mixB l (i + 1) := by
  apply List.ext_getElem?
  intro j
  by_cases hj : j < l.length
  · rw [mixB_at l (i + 1) j hj]
    by_cases h : i = j
    · subst h
      rw [List.getElem?_set_self (by rw [mixB_len]; exact hj), if_pos (by omega)]
    · rw [List.getElem?_set_ne h, mixB_at l i j hj]
      by_cases h2 : j < i
      · rw [if_pos h2, if_pos (by omega)]
      · rw [if_neg h2, if_neg (by omega)]
  · rw [List.getElem?_eq_none (by rw [List.length_set, mixB_len]; omega), List.getElem?_eq_none (by rw [mixB_len]; omega)]
theorem mixB_all (l : List Bool) (j : Nat) (hj : j < l.length) : (mixB l l.length).getD j false = !l.getD j false := by
  rw [List.getD_eq_getElem?_getD, mixB_at l _ j hj, if_pos hj]; rfl

def invF (ss : List ByteArray) (y x : Nat) : Bool := !pixF ss y x
theorem inv_at (ss : List ByteArray) (wd h y x : Nat) (hy : y < h) (hx : x < wd) : (mixB (pixL ss wd (wd * h)) (wd * h)).getD (y * wd + x) false = invF ss y x := by
  have h3 : (y + 1) * wd ≤ h * wd := Nat.mul_le_mul_right _ hy
  rw [Nat.add_mul, Nat.one_mul, Nat.mul_comm h wd] at h3
  have := mixB_all (pixL ss wd (wd * h)) (y * wd + x) (by rw [pixL_len]; omega)
  rw [pixL_len, pixL_at ss wd h y x hy hx] at this
  exact this

end Go.Proofs.YtabkkpifkkgpeaaDoor
