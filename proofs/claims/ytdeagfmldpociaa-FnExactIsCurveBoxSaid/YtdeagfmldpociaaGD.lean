/- Contracts of single functions, and plain lemmas, on which the exact laws of this seat rest; each holds under the conditions that it states. -/
import Derived.Test.YtdeagfmldpociaaGC
import Derived.Test.YtdeagfmldpociaaBl
import Derived.Test.YtdeagfmldpociaaPb
import Derived.Defers
import Derived.Recover
import Derived.WalkLawsBesides
namespace Go.Proofs.Ytdeagfmldpociaa
set_option linter.unusedVariables false
set_option linter.unusedSimpArgs false
open Go.RowKit

/-! ### the least and the greatest number of a row -/
def mnK (ns : List Int) : Nat → Int
  | 0 => ns.getD 0 0
  | k + 1 => min (mnK ns k) (ns.getD k 0)
def mxK (ns : List Int) : Nat → Int
  | 0 => ns.getD 0 0
  | k + 1 => max (mxK ns k) (ns.getD k 0)
theorem mnK_ge (ns : List Int) (z : Int) : ∀ k, z ≤ mnK ns k ↔ z ≤ ns.getD 0 0 ∧ ∀ j, j < k → z ≤ ns.getD j 0
  | 0 => by simp [mnK]
  | k + 1 => by
    show z ≤ min (mnK ns k) (ns.getD k 0) ↔ _
    have ih := mnK_ge ns z k
    constructor
    · intro h
      have h1 : z ≤ mnK ns k := by omega
      have h2 : z ≤ ns.getD k 0 := by omega
      refine ⟨(ih.1 h1).1, fun j hj => ?_⟩
      by_cases e : j = k
      · rw [e]; exact h2
      · exact (ih.1 h1).2 j (by omega)
    · rintro ⟨h1, h2⟩
      have h3 := ih.2 ⟨h1, fun j hj => h2 j (by omega)⟩
      have h4 := h2 k (by omega)
      omega
theorem mxK_le (ns : List Int) (z : Int) : ∀ k, mxK ns k ≤ z ↔ ns.getD 0 0 ≤ z ∧ ∀ j, j < k → ns.getD j 0 ≤ z
  | 0 => by simp [mxK]
  | k + 1 => by
    show max (mxK ns k) (ns.getD k 0) ≤ z ↔ _
    have ih := mxK_le ns z k
    constructor
    · intro h
      have h1 : mxK ns k ≤ z := by omega
      have h2 : ns.getD k 0 ≤ z := by omega
      refine ⟨(ih.1 h1).1, fun j hj => ?_⟩
      by_cases e : j = k
      · rw [e]; exact h2
      · exact (ih.1 h1).2 j (by omega)
    · rintro ⟨h1, h2⟩
      have h3 := ih.2 ⟨h1, fun j hj => h2 j (by omega)⟩
      have h4 := h2 k (by omega)
      omega
theorem numsB_mm {ns : List Int} (m : Int) (h : 0 < ns.length) : numsB m ns = (decide (0 ≤ mnK ns ns.length) && decide (mxK ns ns.length ≤ m)) := by
  rw [Bool.eq_iff_iff, Bool.and_eq_true, decide_eq_true_eq, decide_eq_true_eq, mnK_ge, mxK_le]
  constructor
  · intro hh
    have key : ∀ j, j < ns.length → 0 ≤ ns.getD j 0 ∧ ns.getD j 0 ≤ m := fun j hj => by
      cases hb : inB (ns.getD j 0) 0 m with
      | false => rw [numsB_bad hj hb] at hh; cases hh
      | true => unfold inB at hb; simpa using hb
    exact ⟨⟨(key 0 h).1, fun j hj => (key j hj).1⟩, (key 0 h).2, fun j hj => (key j hj).2⟩
  · rintro ⟨⟨_, h1⟩, _, h2⟩
    exact numsB_good fun j hj => inB_yes (h1 j hj) (h2 j hj)

end Go.Proofs.Ytdeagfmldpociaa
