/- Contracts of single functions, and plain lemmas, on which the exact laws of this seat rest; each holds under the conditions that it states. -/
import Derived.Test.YtaopdhncapoefaaDoorPb
import Derived.BigQuiet
import Derived.Deep.QuietTactic
import Derived.Lib.Tables
import Derived.Lib.BitFns
import Derived.Test.YtaopdhncapoefaaDoorS3
namespace Go.Proofs.YtaopdhncapoefaaDoor
set_option linter.unusedVariables false
open Go.RowKit

/-- how many of the first k bits are set -/
def bs (W : Nat) : Nat → Nat
  | 0 => 0
  | k + 1 => bs W k + if W.testBit k then 1 else 0
theorem bs_succ (W k : Nat) : bs W (k + 1) = bs W k + if W.testBit k then 1 else 0 := rfl
theorem bs_le (W : Nat) : ∀ k, bs W k ≤ k
  | 0 => Nat.le_refl _
  | k + 1 => by have := bs_le W k; rw [bs_succ]; split <;> omega
theorem bs_mod (W : Nat) : ∀ k, k ≤ 8 → bs (W % 256) k = bs W k
  | 0, _ => rfl
  | k + 1, h => by
    rw [bs_succ, bs_succ, bs_mod W k (by omega)]
    have : (W % 256).testBit k = W.testBit k := by
      rw [show (256 : Nat) = 2 ^ 8 from rfl, Nat.testBit_mod_two_pow, decide_eq_true (by omega : k < 8), Bool.true_and]
    rw [this]
theorem bs_div (W : Nat) : ∀ k, bs W (k + 8) = bs W 8 + bs (W / 256) k
  | 0 => by rw [Nat.zero_add]; rfl
  | k + 1 => by
    rw [show k + 1 + 8 = (k + 8) + 1 from by omega, bs_succ W (k + 8), bs_succ (W / 256) k, bs_div W k]
    have : (W / 256).testBit k = W.testBit (k + 8) := by
      rw [show (256 : Nat) = 2 ^ 8 from rfl, Nat.testBit_div_two_pow]
    rw [this]; omega
theorem bs_split (W : Nat) : bs W 16 = bs (W % 256) 8 + bs (W / 256) 8 := by
  rw [bs_mod W 8 (by omega), ← bs_div W 8]
theorem pop8_bs : ∀ b : Fin 256, Lib.pop8 (b.val : Int) = ((bs b.val 8 : Nat) : Int) := by decide +kernel
theorem pop8_nat (b : Nat) (h : b < 256) : Lib.pop8 (b : Int) = ((bs b 8 : Nat) : Int) := pop8_bs ⟨b, h⟩

theorem foldP : (⟨(([0, 1, 1, 2, 1, 2, 2, 3, 1, 2, 2, 3, 2, 3, 3, 4, 1, 2, 2, 3, 2, 3, 3, 4, 2, 3, 3, 4, 3, 4, 4, 5, 1, 2, 2, 3, 2, 3, 3, 4, 2, 3, 3, 4, 3, 4, 4, 5, 2, 3, 3, 4, 3, 4, 4, 5, 3, 4, 4, 5, 4, 5, 5, 6].append [1, 2, 2, 3, 2, 3, 3, 4, 2, 3, 3, 4, 3, 4, 4, 5, 2, 3, 3, 4, 3, 4, 4, 5, 3, 4, 4, 5, 4, 5, 5, 6, 2, 3, 3, 4, 3, 4, 4, 5, 3, 4, 4, 5, 4, 5, 5, 6, 3, 4, 4, 5, 4, 5, 5, 6, 4, 5, 5, 6, 5, 6, 6, 7]).append ([1, 2, 2, 3, 2, 3, 3, 4, 2, 3, 3, 4, 3, 4, 4, 5, 2, 3, 3, 4, 3, 4, 4, 5, 3, 4, 4, 5, 4, 5, 5, 6, 2, 3, 3, 4, 3, 4, 4, 5, 3, 4, 4, 5, 4, 5, 5, 6, 3, 4, 4, 5, 4, 5, 5, 6, 4, 5, 5, 6, 5, 6, 6, 7].append [2, 3, 3, 4, 3, 4, 4, 5, 3, 4, 4, 5, 4, 5, 5, 6, 3, 4, 4, 5, 4, 5, 5, 6, 4, 5, 5, 6, 5, 6, 6, 7, 3, 4, 4, 5, 4, 5, 5, 6, 4, 5, 5, 6, 5, 6, 6, 7, 4, 5, 5, 6, 5, 6, 6, 7, 5, 6, 6, 7, 6, 7, 7, 8])).toArray⟩ : ByteArray) = Lib.pop8tab := by decide +kernel

end Go.Proofs.YtaopdhncapoefaaDoor

/- Contracts of single functions, and plain lemmas, on which the exact laws of this seat rest; each holds under the conditions that it states. -/
namespace Go.Proofs.YtaopdhncapoefaaDoor
set_option linter.unusedVariables false
set_option linter.unusedSimpArgs false
open Go.RowKit

/-- how many of the first k hold -/
def cntF (f : Nat → Bool) : Nat → Nat
  | 0 => 0
  | k + 1 => cntF f k + (if f k = true then 1 else 0)
theorem rgN_bit (f : Nat → Bool) : ∀ (k i : Nat), i < k → (rgN f k).testBit i = f i
  | 0, i, h => absurd h (Nat.not_lt_zero i)
  | k + 1, i, h => by
    have hlt := rgN_lt f k
    simp only [rgN]
    by_cases hk : i = k
    · subst hk
      cases hf : f i with
      | true => rw [if_pos rfl, Nat.add_comm, Nat.testBit_two_pow_add_eq, Nat.testBit_lt_two_pow hlt]; rfl
      | false => rw [if_neg (by decide), Nat.add_zero, Nat.testBit_lt_two_pow hlt]
    · have ih := rgN_bit f k i (by omega)
      split
      · rw [Nat.add_comm, Nat.testBit_two_pow_add_gt (by omega), ih]
      · rw [Nat.add_zero, ih]
theorem bs_rgN (f : Nat → Bool) (n : Nat) : ∀ k, k ≤ n → bs (rgN f n) k = cntF f k
  | 0, _ => rfl
  | k + 1, h => by rw [bs_succ, bs_rgN f n k (by omega), rgN_bit f n k (by omega)]; rfl

set_option maxHeartbeats 1000000 in
set_option maxRecDepth 100000 in
theorem onesCount8_any (W : Nat) (w : World) (hW : W < 256) : Calls Tryd.prog 69 #[.int .u8 W] w fun e w' => e = .returned (.int .i64 ((bs W 8 : Nat) : Int)) ∧ Below w.heap.size w w' := by
  have p1 := pop8_nat W hW
  have b1 := bs_le W 8
  obtain ⟨x, hx⟩ : ∃ x, bs W 8 = x := ⟨_, rfl⟩
  rw [hx] at p1 b1 ⊢
  have q1 : (0 : Int) ≤ (W : Int) := by omega
  have q2 : (W : Int) ≤ 255 := by omega
  clear hx hW
  go_enter Tryd.func69, Tryd.ntmps69
  go_wp2
  go_ret
  exact ⟨rfl, Below.refl _ _⟩

set_option maxHeartbeats 1000000 in
set_option maxRecDepth 100000 in
theorem blacks_any (f : Nat → Bool) (w : World) : Calls Tryd.prog 52 #[.int .u8 ((rgN f 8 : Nat) : Int)] w fun e w' => e = .returned (.int .i64 ((cntF f 8 : Nat) : Int)) ∧ Below w.heap.size w w' := by
  have C := Lib.hid (onesCount8_any (rgN f 8) w (rgN_lt f 8))
  rw [bs_rgN f 8 8 (Nat.le_refl _)] at C
  go_enter Tryd.func52, Tryd.ntmps52
  go_wp2_with fail
  refine C.out.mono ?_
  rintro e w1 ⟨rfl, hb⟩
  have HB := Lib.hid hb
  clear hb
  go_wp2
  go_ret
  exact ⟨rfl, HB.out⟩
end Go.Proofs.YtaopdhncapoefaaDoor
