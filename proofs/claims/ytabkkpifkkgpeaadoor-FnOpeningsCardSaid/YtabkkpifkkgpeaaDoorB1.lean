/- Contracts of single functions, and plain lemmas, on which the exact laws of this seat rest; each holds under the conditions that it states. -/
import Derived.Test.YtabkkpifkkgpeaaDoorAn
import Derived.Test.YtabkkpifkkgpeaaDoorSp
import Derived.Test.YtabkkpifkkgpeaaDoorPb
namespace Go.Proofs.YtabkkpifkkgpeaaDoor
set_option linter.unusedVariables false
set_option linter.unusedSimpArgs false
open Go.RowKit

/-! ### an element that fits -/
def fitP (ss : List ByteArray) (xs : List (Int × Int)) (X Y : Int) (i : Nat) : Bool := pixI ss (X + (xs.getD i (0, 0)).1) (Y + (xs.getD i (0, 0)).2)
def fitB (ss : List ByteArray) (xs : List (Int × Int)) (X Y : Int) : Bool := (List.range xs.length).all (fitP ss xs X Y)
theorem fitB_bad {ss : List ByteArray} {xs : List (Int × Int)} {X Y : Int} {i : Nat} (hi : i < xs.length) (h : fitP ss xs X Y i = false) : fitB ss xs X Y = false := by
  unfold fitB
  rw [List.all_eq_false]
  exact ⟨i, List.mem_range.2 hi, by rw [h]; simp⟩
theorem fitB_good {ss : List ByteArray} {xs : List (Int × Int)} {X Y : Int} (h : ∀ i, i < xs.length → fitP ss xs X Y i = true) : fitB ss xs X Y = true :=
  List.all_eq_true.2 (fun i hi => h i (List.mem_range.1 hi))
theorem elB_range {xs : List (Int × Int)} (h : elB xs = true) (i : Nat) (hi : i < xs.length) : (-4 ≤ (xs.getD i (0, 0)).1 ∧ (xs.getD i (0, 0)).1 ≤ 4) ∧ (-4 ≤ (xs.getD i (0, 0)).2 ∧ (xs.getD i (0, 0)).2 ≤ 4) := by
  unfold elB at h
  rw [Bool.and_eq_true] at h
  have := List.all_eq_true.1 h.1 i (List.mem_range.2 hi)
  unfold stepOk at this
  rw [Bool.and_eq_true] at this
  exact (okO_iff _).1 this.1

end Go.Proofs.YtabkkpifkkgpeaaDoor
