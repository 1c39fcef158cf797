/- Contracts of single functions, and plain lemmas, on which the exact laws of this seat rest; each holds under the conditions that it states. -/
import Derived.Test.YtabkkpifkkgpeaaDoorL14
namespace Go.Proofs.YtabkkpifkkgpeaaDoor
set_option linter.unusedVariables false
open Go.RowKit

/-- a row of one's own has room for what it holds -/
theorem own_cap {W : World} {base s n : Nat} {e : TypeId} {v : Value} {xs : List Value} (h : W.ownsRow base e s v n xs) : ∀ ao m c, v = .slice ao m c → m ≤ c := by
  intro ao m c hv
  rcases h.2 with ⟨rfl, rfl⟩ | ⟨g, cap, cur, rfl, _, _, hc, _⟩
  · cases hv; exact Nat.le_refl _
  · cases hv; exact hc
theorem pxP_len (k : Nat) (ss : List ByteArray) (xs : List (Int × Int)) : (pxP k ss xs).length ≤ 16 := by
  cases h : pxOk ss xs with
  | false => rw [pxP_no h]; simp
  | true =>
    rw [pxP_yes h]
    unfold pxOk at h
    rw [Bool.and_eq_true] at h
    have V := vp_of h.1
    unfold mkPic
    simpa using V.n16
end Go.Proofs.YtabkkpifkkgpeaaDoor
