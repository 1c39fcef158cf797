/- Contracts of single functions, and plain lemmas, on which the exact laws of this seat rest; each holds under the conditions that it states. -/
import Derived.Test.YthblhibkbcmbaaaDoorPb
namespace Go.Proofs.YthblhibkbcmbaaaDoor
set_option linter.unusedVariables false
set_option linter.unusedSimpArgs false
open Go.RowKit

/-! ### a picture that is made of a function -/
theorem rowOf_size (f : Nat → Bool) (n : Nat) : (rowOf f n).size = n := by simp [rowOf, ByteArray.size, mkRow]
theorem rowOf_get (f : Nat → Bool) (n x : Nat) (h : x < (rowOf f n).size) : (rowOf f n)[x]'h = if f x = true then 35 else 46 := by
  have hx : x < n := by rwa [rowOf_size] at h
  have : (rowOf f n)[x]'h = (mkRow f n)[x]'(by rw [mkRow_len]; exact hx) := by
    simp [rowOf, ByteArray.getElem_eq_getElem_data]
  rw [this]
  simp [mkRow]
theorem mkPic_getD (wd h : Nat) (f : Nat → Nat → Bool) {y : Nat} (hy : y < h) : (mkPic wd h f).getD y ByteArray.empty = rowOf (f y) wd := by
  simp [mkPic, List.getD, hy]
theorem mkPic_row0 (wd h : Nat) (f : Nat → Nat → Bool) (hh : 1 ≤ h) : (row0 (mkPic wd h f)).size = wd := by
  show ((mkPic wd h f).getD 0 ByteArray.empty).size = wd
  rw [mkPic_getD wd h f (by omega), rowOf_size]
theorem mkPic_pix (wd h : Nat) (f : Nat → Nat → Bool) {y x : Nat} (hy : y < h) (hx : x < wd) : pixF (mkPic wd h f) y x = f y x := by
  unfold pixF
  rw [mkPic_getD wd h f hy, blackAt_eq _ _ (by rw [rowOf_size]; exact hx), rowOf_get]
  cases f y x <;> rfl
theorem mkPic_valid (wd h : Nat) (f : Nat → Nat → Bool) (hw : 1 ≤ wd ∧ wd ≤ 16) (hh : 1 ≤ h ∧ h ≤ 16) : validB (mkPic wd h f) = true := by
  unfold validB
  simp only [Bool.and_eq_true, decide_eq_true_eq, mkPic_len, mkPic_row0 wd h f hh.1]
  refine ⟨⟨⟨⟨hh.1, hh.2⟩, hw.1⟩, hw.2⟩, ?_⟩
  rw [List.all_eq_true]
  intro s hs
  obtain ⟨y, hy, rfl⟩ := List.mem_iff_getElem.1 hs
  rw [mkPic_len] at hy
  have e : (mkPic wd h f)[y] = rowOf (f y) wd := by simp [mkPic]
  rw [e]
  unfold rowB
  simp only [Bool.and_eq_true, decide_eq_true_eq]
  refine ⟨rowOf_size _ _, ?_⟩
  rw [List.all_eq_true]
  intro c hc
  have hc' : c ∈ mkRow (f y) wd := by simpa [rowOf] using hc
  obtain ⟨x, hx, rfl⟩ := List.mem_iff_getElem.1 hc'
  simp only [mkRow, List.getElem_map, List.getElem_range]
  cases f y x <;> decide
end Go.Proofs.YthblhibkbcmbaaaDoor
