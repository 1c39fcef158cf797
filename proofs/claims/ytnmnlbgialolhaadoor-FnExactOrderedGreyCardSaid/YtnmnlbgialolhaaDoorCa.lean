/- Contracts of single functions, and plain lemmas, on which the exact laws of this seat rest; each holds under the conditions that it states. -/
import Derived.Test.YtnmnlbgialolhaaDoorPb
import Derived.BigQuiet
import Derived.Deep.QuietTactic
import Derived.Lib.Tables
import Derived.Lib.BitFns
namespace Go.Proofs.YtnmnlbgialolhaaDoor
set_option linter.unusedVariables false
open Go.RowKit

/-- how many of the first k bits are set -/
def bs (W : Nat) : Nat → Nat
  | 0 => 0
  | k + 1 => bs W k + if W.testBit k then 1 else 0
theorem bs_succ (W k : Nat) : bs W (k + 1) = bs W k + if W.testBit k then 1 else 0 := rfl
theorem bs_le (W : Nat) : ∀ k, bs W k ≤ k
  | 0 => Nat.le_refl _
  | k + 1 => by have := bs_le W k; rw [bs_succ]; split <;> omega
theorem bs_mod (W : Nat) : ∀ k, k ≤ 8 → bs (W % 256) k = bs W k
  | 0, _ => rfl
  | k + 1, h => by
    rw [bs_succ, bs_succ, bs_mod W k (by omega)]
    have : (W % 256).testBit k = W.testBit k := by
      rw [show (256 : Nat) = 2 ^ 8 from rfl, Nat.testBit_mod_two_pow, decide_eq_true (by omega : k < 8), Bool.true_and]
    rw [this]
theorem bs_div (W : Nat) : ∀ k, bs W (k + 8) = bs W 8 + bs (W / 256) k
  | 0 => by rw [Nat.zero_add]; rfl
  | k + 1 => by
    rw [show k + 1 + 8 = (k + 8) + 1 from by omega, bs_succ W (k + 8), bs_succ (W / 256) k, bs_div W k]
    have : (W / 256).testBit k = W.testBit (k + 8) := by
      rw [show (256 : Nat) = 2 ^ 8 from rfl, Nat.testBit_div_two_pow]
    rw [this]; omega
theorem bs_split (W : Nat) : bs W 16 = bs (W % 256) 8 + bs (W / 256) 8 := by
  rw [bs_mod W 8 (by omega), ← bs_div W 8]
theorem pop8_bs : ∀ b : Fin 256, Lib.pop8 (b.val : Int) = ((bs b.val 8 : Nat) : Int) := by decide +kernel
theorem pop8_nat (b : Nat) (h : b < 256) : Lib.pop8 (b : Int) = ((bs b 8 : Nat) : Int) := pop8_bs ⟨b, h⟩

theorem foldP : (⟨(([0, 1, 1, 2, 1, 2, 2, 3, 1, 2, 2, 3, 2, 3, 3, 4, 1, 2, 2, 3, 2, 3, 3, 4, 2, 3, 3, 4, 3, 4, 4, 5, 1, 2, 2, 3, 2, 3, 3, 4, 2, 3, 3, 4, 3, 4, 4, 5, 2, 3, 3, 4, 3, 4, 4, 5, 3, 4, 4, 5, 4, 5, 5, 6].append [1, 2, 2, 3, 2, 3, 3, 4, 2, 3, 3, 4, 3, 4, 4, 5, 2, 3, 3, 4, 3, 4, 4, 5, 3, 4, 4, 5, 4, 5, 5, 6, 2, 3, 3, 4, 3, 4, 4, 5, 3, 4, 4, 5, 4, 5, 5, 6, 3, 4, 4, 5, 4, 5, 5, 6, 4, 5, 5, 6, 5, 6, 6, 7]).append ([1, 2, 2, 3, 2, 3, 3, 4, 2, 3, 3, 4, 3, 4, 4, 5, 2, 3, 3, 4, 3, 4, 4, 5, 3, 4, 4, 5, 4, 5, 5, 6, 2, 3, 3, 4, 3, 4, 4, 5, 3, 4, 4, 5, 4, 5, 5, 6, 3, 4, 4, 5, 4, 5, 5, 6, 4, 5, 5, 6, 5, 6, 6, 7].append [2, 3, 3, 4, 3, 4, 4, 5, 3, 4, 4, 5, 4, 5, 5, 6, 3, 4, 4, 5, 4, 5, 5, 6, 4, 5, 5, 6, 5, 6, 6, 7, 3, 4, 4, 5, 4, 5, 5, 6, 4, 5, 5, 6, 5, 6, 6, 7, 4, 5, 5, 6, 5, 6, 6, 7, 5, 6, 6, 7, 6, 7, 7, 8])).toArray⟩ : ByteArray) = Lib.pop8tab := by decide +kernel

end Go.Proofs.YtnmnlbgialolhaaDoor
