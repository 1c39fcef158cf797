/- Contracts of single functions, and plain lemmas, on which the exact laws of this seat rest; each holds under the conditions that it states. -/
import Derived.Test.YtakaglbbcaplhaaDoorS3
import Derived.Test.YtakaglbbcaplhaaDoorCa
namespace Go.Proofs.YtakaglbbcaplhaaDoor
set_option linter.unusedVariables false
set_option linter.unusedSimpArgs false
open Go.RowKit

/-- how many of the first k hold -/
def cntF (f : Nat → Bool) : Nat → Nat
  | 0 => 0
  | k + 1 => cntF f k + (if f k = true then 1 else 0)
theorem rgN_bit (f : Nat → Bool) : ∀ (k i : Nat), i < k → (rgN f k).testBit i = f i
  | 0, i, h => absurd h (Nat.not_lt_zero i)
  | k + 1, i, h => by
    have hlt := rgN_lt f k
    simp only [rgN]
    by_cases hk : i = k
    · subst hk
      cases hf : f i with
      | true => rw [if_pos rfl, Nat.add_comm, Nat.testBit_two_pow_add_eq, Nat.testBit_lt_two_pow hlt]; rfl
      | false => rw [if_neg (by decide), Nat.add_zero, Nat.testBit_lt_two_pow hlt]
    · have ih := rgN_bit f k i (by omega)
      split
      · rw [Nat.add_comm, Nat.testBit_two_pow_add_gt (by omega), ih]
      · rw [Nat.add_zero, ih]
theorem bs_rgN (f : Nat → Bool) (n : Nat) : ∀ k, k ≤ n → bs (rgN f n) k = cntF f k
  | 0, _ => rfl
  | k + 1, h => by rw [bs_succ, bs_rgN f n k (by omega), rgN_bit f n k (by omega)]; rfl

set_option maxHeartbeats 1000000 in
set_option maxRecDepth 100000 in
theorem onesCount8_any (W : Nat) (w : World) (hW : W < 256) : Calls Tryd.prog 177 #[.int .u8 W] w fun e w' => e = .returned (.int .i64 ((bs W 8 : Nat) : Int)) ∧ Below w.heap.size w w' := by
  have p1 := pop8_nat W hW
  have b1 := bs_le W 8
  obtain ⟨x, hx⟩ : ∃ x, bs W 8 = x := ⟨_, rfl⟩
  rw [hx] at p1 b1 ⊢
  have q1 : (0 : Int) ≤ (W : Int) := by omega
  have q2 : (W : Int) ≤ 255 := by omega
  clear hx hW
  go_enter Tryd.func177, Tryd.ntmps177
  go_wp2
  go_ret
  exact ⟨rfl, Below.refl _ _⟩

set_option maxHeartbeats 1000000 in
set_option maxRecDepth 100000 in
theorem blacks_any (f : Nat → Bool) (w : World) : Calls Tryd.prog 165 #[.int .u8 ((rgN f 8 : Nat) : Int)] w fun e w' => e = .returned (.int .i64 ((cntF f 8 : Nat) : Int)) ∧ Below w.heap.size w w' := by
  have C := Lib.hid (onesCount8_any (rgN f 8) w (rgN_lt f 8))
  rw [bs_rgN f 8 8 (Nat.le_refl _)] at C
  go_enter Tryd.func165, Tryd.ntmps165
  go_wp2_with fail
  refine C.out.mono ?_
  rintro e w1 ⟨rfl, hb⟩
  have HB := Lib.hid hb
  clear hb
  go_wp2
  go_ret
  exact ⟨rfl, HB.out⟩
end Go.Proofs.YtakaglbbcaplhaaDoor
