/- Contracts of single functions, and plain lemmas, on which the exact laws of this seat rest; each holds under the conditions that it states. -/
import Derived.Test.YtabkkpifkkgpeaaDoorL12
import Derived.Test.YtabkkpifkkgpeaaDoorL8
namespace Go.Proofs.YtabkkpifkkgpeaaDoor
set_option linter.unusedVariables false
set_option linter.unusedSimpArgs false
open Go.RowKit

/-- no offset of the first k leads to a black pixel -/
def msK (ss : List ByteArray) (ys : List (Int × Int)) (X Y : Int) (k : Nat) : Bool := (List.range k).all fun i => !pixI ss (X + (ys.getD i (0, 0)).1) (Y + (ys.getD i (0, 0)).2)
theorem msK_snoc (ss : List ByteArray) (ys : List (Int × Int)) (X Y : Int) (k : Nat) : msK ss ys X Y (k + 1) = (msK ss ys X Y k && !pixI ss (X + (ys.getD k (0, 0)).1) (Y + (ys.getD k (0, 0)).2)) := by
  simp [msK, List.range_succ]
theorem msK_less (ss : List ByteArray) (ys : List (Int × Int)) (X Y : Int) {k n : Nat} (hk : k ≤ n) (h : msK ss ys X Y k = false) : msK ss ys X Y n = false := by
  unfold msK at h ⊢
  rw [List.all_eq_false] at h ⊢
  obtain ⟨i, hi, hn⟩ := h
  exact ⟨i, List.mem_range.2 (by have := List.mem_range.1 hi; omega), hn⟩
/-- a pixel of a hit -/
def hmF (ss : List ByteArray) (xs ys : List (Int × Int)) (y x : Nat) : Bool := fitB ss xs x y && msK ss ys x y ys.length
def hmOk (ss : List ByteArray) (xs ys : List (Int × Int)) : Bool := validB ss && elB xs && elB ys
def hmP (ss : List ByteArray) (xs ys : List (Int × Int)) : List ByteArray := if hmOk ss xs ys then mkPic (row0 ss).size ss.length (hmF ss xs ys) else []

end Go.Proofs.YtabkkpifkkgpeaaDoor
