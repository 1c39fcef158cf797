/- Contracts of single functions, and plain lemmas, on which the exact laws of this seat rest; each holds under the conditions that it states. -/
import Derived.Test.YthoffbibaimjlaaDoorPb
namespace Go.Proofs.YthoffbibaimjlaaDoor
set_option linter.unusedVariables false
open Go.RowKit

theorem mask_val (a : Nat) (ha : a ≤ 16) : ((2 : Int) ^ a % 4294967296 - 1) % 4294967296 = ((2 ^ a - 1 : Nat) : Int) := by
  have h : 2 ^ a ≤ 2 ^ 16 := Nat.pow_le_pow_right (by omega) ha
  have h0 : 0 < 2 ^ a := Nat.pow_pos (by omega)
  have e : ((2 : Int) ^ a) = ((2 ^ a : Nat) : Int) := by push_cast; rfl
  rw [e]
  obtain ⟨K, hK⟩ : ∃ K, 2 ^ a = K := ⟨_, rfl⟩
  rw [hK] at h h0 ⊢
  omega

end Go.Proofs.YthoffbibaimjlaaDoor
