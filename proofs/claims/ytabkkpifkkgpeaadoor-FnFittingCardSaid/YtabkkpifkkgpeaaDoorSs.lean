/- Contracts of single functions, and plain lemmas, on which the exact laws of this seat rest; each holds under the conditions that it states. -/
import Derived.Test.YtabkkpifkkgpeaaDoorMp
import Derived.Test.YtabkkpifkkgpeaaDoorSp
import Derived.Test.YtabkkpifkkgpeaaDoorPb
import Derived.Test.YtabkkpifkkgpeaaDoorLt
import Derived.Test.YtabkkpifkkgpeaaDoorPx
namespace Go.Proofs.YtabkkpifkkgpeaaDoor
set_option linter.unusedVariables false
open Go.RowKit

/-- a pixel changed -/
def setF (ss : List ByteArray) (q p : Nat) (bk : Bool) (y x : Nat) : Bool := if y = q ∧ x = p then bk else pixF ss y x
theorem setF_at (ss : List ByteArray) (wd h q p : Nat) (bk : Bool) (hq : q < h) (hp : p < wd) (y x : Nat) (hy : y < h) (hx : x < wd) :
    ((pixL ss wd (wd * h)).set (q * wd + p) bk).getD (y * wd + x) false = setF ss q p bk y x := by
  unfold setF
  have hat := pixL_at ss wd h y x hy hx
  have h3 : (q + 1) * wd ≤ h * wd := Nat.mul_le_mul_right _ hq
  rw [Nat.add_mul, Nat.one_mul, Nat.mul_comm h wd] at h3
  by_cases h : y = q ∧ x = p
  · obtain ⟨rfl, rfl⟩ := h
    rw [if_pos ⟨rfl, rfl⟩, List.getD_eq_getElem?_getD, List.getElem?_set_self (by rw [pixL_len]; omega)]
    rfl
  · rw [if_neg h, ← hat, List.getD_eq_getElem?_getD, List.getD_eq_getElem?_getD, List.getElem?_set_ne]
    intro e
    apply h
    have e1 : (q * wd + p) / wd = q := by rw [Nat.mul_comm, Nat.mul_add_div (by omega), Nat.div_eq_of_lt hp, Nat.add_zero]
    have e2 : (y * wd + x) / wd = y := by rw [Nat.mul_comm, Nat.mul_add_div (by omega), Nat.div_eq_of_lt hx, Nat.add_zero]
    have e3 : q = y := by rw [← e1, ← e2, e]
    subst e3
    exact ⟨rfl, by omega⟩

end Go.Proofs.YtabkkpifkkgpeaaDoor
