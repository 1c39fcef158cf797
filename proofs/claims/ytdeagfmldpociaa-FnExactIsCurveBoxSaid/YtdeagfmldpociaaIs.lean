/- Contracts of single functions, and plain lemmas, on which the exact laws of this seat rest; each holds under the conditions that it states. -/
import Derived.Test.YtdeagfmldpociaaHd
namespace Go.Proofs.Ytdeagfmldpociaa
set_option linter.unusedVariables false
open Go.RowKit

/-- between two numbers -/
def inB (n a b : Int) : Bool := decide (a ≤ n) && decide (n ≤ b)
theorem inB_yes {n a b : Int} (h1 : a ≤ n) (h2 : n ≤ b) : inB n a b = true := by simp [inB, h1, h2]
theorem inB_no {n a b : Int} (h : n < a ∨ b < n) : inB n a b = false := by simp [inB]; omega

set_option maxHeartbeats 400000 in
theorem l00In_any (n a b : Int) (w : World) : Calls Try.prog 38 #[.int .i64 n, .int .i64 a, .int .i64 b] w fun e w' => e = .returned (.bool (inB n a b)) ∧ w = w' := by
  by_cases h1 : a ≤ n
  · have e2 : Hid (inB n a b = decide (n ≤ b)) := by
      show inB n a b = _
      simp [inB, h1]
    go_enter Try.func38, Try.ntmps38
    go_wp2
    go_ret
    exact ⟨ret_bool e2.out.symm, rfl⟩
  · have e2 : Hid (inB n a b = false) := by
      show inB n a b = _
      simp [inB, h1]
    go_enter Try.func38, Try.ntmps38
    go_wp2
    go_ret
    exact ⟨ret_bool (a := false) e2.out.symm, rfl⟩

/-- A row of a valid picture. -/
def pixB (c : UInt8) : Bool := c == 35 || c == 46
def rowB (wd : Nat) (s : ByteArray) : Bool := decide (s.size = wd) && s.data.toList.all pixB
def row0 (ss : List ByteArray) : ByteArray := ss.getD 0 ByteArray.empty
def validB (ss : List ByteArray) : Bool := decide (1 ≤ ss.length) && decide (ss.length ≤ 16) && decide (1 ≤ (row0 ss).size) && decide ((row0 ss).size ≤ 16) && ss.all (rowB (row0 ss).size)

theorem pix_all {s : ByteArray} (h : ∀ (j : Nat) (hj : j < s.size), pixB (s[j]'hj) = true) : s.data.toList.all pixB = true := by
  rw [List.all_eq_true]
  intro c hc
  obtain ⟨k, hk, rfl⟩ := List.getElem_of_mem hc
  exact h k (by simpa using hk)
theorem pix_some {s : ByteArray} {k : Nat} (hk : k < s.size) (h : pixB (s[k]'hk) = false) : s.data.toList.all pixB = false := by
  rw [List.all_eq_false]
  exact ⟨s[k], Array.mem_toList_iff.2 (Array.getElem_mem _), by simp [h]⟩
theorem valid_no_len {ss : List ByteArray} (h : ss.length < 1 ∨ 16 < ss.length) : validB ss = false := by
  unfold validB
  rcases h with h | h
  · simp [show ¬ 1 ≤ ss.length from by omega]
  · simp [show ¬ ss.length ≤ 16 from by omega]
theorem valid_no_wd {ss : List ByteArray} (h : (row0 ss).size < 1 ∨ 16 < (row0 ss).size) : validB ss = false := by
  unfold validB
  rcases h with h | h
  · simp [show ¬ 1 ≤ (row0 ss).size from by omega]
  · simp [show ¬ (row0 ss).size ≤ 16 from by omega]
theorem valid_no_row {ss : List ByteArray} {k : Nat} (hk : k < ss.length) (h : rowB (row0 ss).size (ss.getD k ByteArray.empty) = false) : validB ss = false := by
  unfold validB
  have : ss.all (rowB (row0 ss).size) = false := by
    rw [List.all_eq_false]
    refine ⟨ss[k], List.getElem_mem _, ?_⟩
    rw [List.getD_eq_getElem?_getD, List.getElem?_eq_getElem hk] at h
    simpa using h
  simp [this]
theorem valid_yes {ss : List ByteArray} (h1 : 1 ≤ ss.length) (h2 : ss.length ≤ 16) (h3 : 1 ≤ (row0 ss).size) (h4 : (row0 ss).size ≤ 16) (h : ∀ j, j < ss.length → rowB (row0 ss).size (ss.getD j ByteArray.empty) = true) : validB ss = true := by
  unfold validB
  have : ss.all (rowB (row0 ss).size) = true := by
    rw [List.all_eq_true]
    intro s hs
    obtain ⟨k, hk, rfl⟩ := List.getElem_of_mem hs
    have := h k hk
    rwa [List.getD_eq_getElem?_getD, List.getElem?_eq_getElem hk] at this
  simp [h1, h2, h3, h4, this]

end Go.Proofs.Ytdeagfmldpociaa
