/- Contracts of single functions, and plain lemmas, on which the exact laws of this seat rest; each holds under the conditions that it states. -/
import Derived.Test.YtchcmbgbndccmaaDoorIv
import Derived.Test.YtchcmbgbndccmaaDoorSi
namespace Go.Proofs.YtchcmbgbndccmaaDoor
set_option linter.unusedVariables false
open Go.RowKit

theorem mask_val (a : Nat) (ha : a ≤ 16) : ((2 : Int) ^ a % 4294967296 - 1) % 4294967296 = ((2 ^ a - 1 : Nat) : Int) := by
  have h : 2 ^ a ≤ 2 ^ 16 := Nat.pow_le_pow_right (by omega) ha
  have h0 : 0 < 2 ^ a := Nat.pow_pos (by omega)
  have e : ((2 : Int) ^ a) = ((2 ^ a : Nat) : Int) := by push_cast; rfl
  rw [e]
  obtain ⟨K, hK⟩ : ∃ K, 2 ^ a = K := ⟨_, rfl⟩
  rw [hK] at h h0 ⊢
  omega

set_option maxHeartbeats 1000000 in
theorem maskOf_any (a : Nat) (w : World) (ha : a ≤ 16) : Calls Tryd.prog 76 #[.int .i64 a] w fun e w' => e = .returned (.int .u32 ((2 ^ a - 1 : Nat) : Int)) ∧ w = w' := by
  have k := mask_val a ha
  have h0 : 0 < 2 ^ a := Nat.pow_pos (by omega)
  obtain ⟨m, hm⟩ : ∃ m : Int, ((2 ^ a - 1 : Nat) : Int) = m := ⟨_, rfl⟩
  rw [hm] at k ⊢
  go_enter Tryd.func76, Tryd.ntmps76
  go_wp2
  go_ret
  exact ⟨by show Ending.returned (.int .u32 (((2 : Int) ^ a % 4294967296 - 1) % 4294967296)) = _; rw [k], rfl⟩

/-- the first y words turned -/
def invG (g : Nat → Nat) (a y j : Nat) : Nat := if j < y then g j ^^^ (2 ^ a - 1) else g j
theorem inv_bits {ss : List ByteArray} (V : VP ss) (y x : Nat) (hy : y < ss.length) (hx : x < (row0 ss).size) :
    blackB (row0 ss).size ss.length (invG (wordsOf ss) (row0 ss).size ss.length) x y = invF ss y x := by
  have hh : hasB (row0 ss).size ss.length x y = true := by rw [hasB_insB]; exact in_range hx hy
  unfold blackB invF invG
  rw [hh, Bool.true_and, Int.toNat_natCast, Int.toNat_natCast, if_pos hy, Nat.testBit_xor, words_at V y x hy hx, Nat.testBit_two_pow_sub_one, decide_eq_true hx]
  simp
end Go.Proofs.YtchcmbgbndccmaaDoor
