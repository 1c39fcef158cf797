/- Contracts of single functions, and plain lemmas, on which the exact laws of this seat rest; each holds under the conditions that it states. -/
import Derived.Test.YthoffbibaimjlaaDoorWd
namespace Go.Proofs.YthoffbibaimjlaaDoor
set_option linter.unusedVariables false
open Go.RowKit

/-- a valid picture lies behind the pointer -/
structure PicAt (w : World) (pb po : Nat) (ss : List ByteArray) : Prop where
  ok : validB ss = true
  cell : ∃ v, w.cell? ⟨pb, po, none⟩ = some v ∧ Sl w v ss

structure VP (ss : List ByteArray) : Prop where
  n1 : 1 ≤ ss.length
  n16 : ss.length ≤ 16
  w1 : 1 ≤ (row0 ss).size
  w16 : (row0 ss).size ≤ 16
  rows : ∀ j, j < ss.length → (ss.getD j ByteArray.empty).size = (row0 ss).size ∧ ∀ (i : Nat) (hi : i < (ss.getD j ByteArray.empty).size), pixB ((ss.getD j ByteArray.empty)[i]'hi) = true

theorem vp_of {ss : List ByteArray} (h : validB ss = true) : VP ss := by
  unfold validB at h
  simp only [Bool.and_eq_true, decide_eq_true_eq] at h
  obtain ⟨⟨⟨⟨h1, h2⟩, h3⟩, h4⟩, h5⟩ := h
  refine ⟨h1, h2, h3, h4, fun j hj => ?_⟩
  rw [List.all_eq_true] at h5
  have := h5 _ (List.getElem_mem hj)
  have e : ss.getD j ByteArray.empty = ss[j] := by rw [List.getD_eq_getElem?_getD, List.getElem?_eq_getElem hj]; rfl
  unfold rowB at this
  simp only [Bool.and_eq_true, decide_eq_true_eq] at this
  refine ⟨by rw [e]; exact this.1, fun i hi => ?_⟩
  have h6 := this.2
  rw [List.all_eq_true] at h6
  have hm : (ss.getD j ByteArray.empty)[i] ∈ ss[j].data.toList := by rw [← e]; exact Array.mem_toList_iff.2 (Array.getElem_mem _)
  exact h6 _ hm

theorem PicAt.open' {w : World} {pb po : Nat} {ss : List ByteArray} (h : PicAt w pb po ss) : ∃ b off cap, w.cell? ⟨pb, po, none⟩ = some (.slice (some ⟨b, off, none⟩) ss.length cap) ∧ Strs w b off ss ∧ VP ss := by
  obtain ⟨hok, v, hc, hs⟩ := h
  have V := vp_of hok
  rcases hs with ⟨ao, cap, rfl, rfl⟩ | ⟨b, off, cap, rfl, hpos, hst⟩
  · exact absurd V.n1 (by simp)
  · exact ⟨b, off, cap, hc, hst, V⟩

theorem PicAt.below {w w' : World} {pb po : Nat} {ss : List ByteArray} (h : PicAt w pb po ss) (hb : Below w.heap.size w w') : PicAt w' pb po ss := by
  obtain ⟨hok, v, hc, hs⟩ := h
  exact ⟨hok, v, cell_kept hb hc, hs.below hb⟩
end Go.Proofs.YthoffbibaimjlaaDoor
