/- Contracts of single functions, and plain lemmas, on which the exact laws of this seat rest; each holds under the conditions that it states. -/
import Derived.Test.YthblhibkbcmbaaaDoorPb
import Derived.BigQuiet
import Derived.Deep.QuietTactic
import Derived.Lib.Tables
import Derived.Lib.BitFns
namespace Go.Proofs.YthblhibkbcmbaaaDoor
set_option linter.unusedVariables false
open Go.RowKit

/-- how many of the first k bits are set -/
def bs (W : Nat) : Nat → Nat
  | 0 => 0
  | k + 1 => bs W k + if W.testBit k then 1 else 0
theorem bs_succ (W k : Nat) : bs W (k + 1) = bs W k + if W.testBit k then 1 else 0 := rfl
theorem bs_le (W : Nat) : ∀ k, bs W k ≤ k
  | 0 => Nat.le_refl _
  | k + 1 => by have := bs_le W k; rw [bs_succ]; split <;> omega
theorem bs_mod (W : Nat) : ∀ k, k ≤ 8 → bs (W % 256) k = bs W k
  | 0, _ => rfl
  | k + 1, h => by
    rw [bs_succ, bs_succ, bs_mod W k (by omega)]
    have : (W % 256).testBit k = W.testBit k := by
      rw [show (256 : Nat) = 2 ^ 8 from rfl, Nat.testBit_mod_two_pow, decide_eq_true (by omega : k < 8), Bool.true_and]
    rw [this]
theorem bs_div (W : Nat) : ∀ k, bs W (k + 8) = bs W 8 + bs (W / 256) k
  | 0 => by rw [Nat.zero_add]; rfl
  | k + 1 => by
    rw [show k + 1 + 8 = (k + 8) + 1 from by omega, bs_succ W (k + 8), bs_succ (W / 256) k, bs_div W k]
    have : (W / 256).testBit k = W.testBit (k + 8) := by
      rw [show (256 : Nat) = 2 ^ 8 from rfl, Nat.testBit_div_two_pow]
    rw [this]; omega
theorem bs_split (W : Nat) : bs W 16 = bs (W % 256) 8 + bs (W / 256) 8 := by
  rw [bs_mod W 8 (by omega), ← bs_div W 8]
theorem pop8_bs : ∀ b : Fin 256, Lib.pop8 (b.val : Int) = ((bs b.val 8 : Nat) : Int) := by decide +kernel
theorem pop8_nat (b : Nat) (h : b < 256) : Lib.pop8 (b : Int) = ((bs b 8 : Nat) : Int) := pop8_bs ⟨b, h⟩

theorem foldP : (⟨(([0, 1, 1, 2, 1, 2, 2, 3, 1, 2, 2, 3, 2, 3, 3, 4, 1, 2, 2, 3, 2, 3, 3, 4, 2, 3, 3, 4, 3, 4, 4, 5, 1, 2, 2, 3, 2, 3, 3, 4, 2, 3, 3, 4, 3, 4, 4, 5, 2, 3, 3, 4, 3, 4, 4, 5, 3, 4, 4, 5, 4, 5, 5, 6].append [1, 2, 2, 3, 2, 3, 3, 4, 2, 3, 3, 4, 3, 4, 4, 5, 2, 3, 3, 4, 3, 4, 4, 5, 3, 4, 4, 5, 4, 5, 5, 6, 2, 3, 3, 4, 3, 4, 4, 5, 3, 4, 4, 5, 4, 5, 5, 6, 3, 4, 4, 5, 4, 5, 5, 6, 4, 5, 5, 6, 5, 6, 6, 7]).append ([1, 2, 2, 3, 2, 3, 3, 4, 2, 3, 3, 4, 3, 4, 4, 5, 2, 3, 3, 4, 3, 4, 4, 5, 3, 4, 4, 5, 4, 5, 5, 6, 2, 3, 3, 4, 3, 4, 4, 5, 3, 4, 4, 5, 4, 5, 5, 6, 3, 4, 4, 5, 4, 5, 5, 6, 4, 5, 5, 6, 5, 6, 6, 7].append [2, 3, 3, 4, 3, 4, 4, 5, 3, 4, 4, 5, 4, 5, 5, 6, 3, 4, 4, 5, 4, 5, 5, 6, 4, 5, 5, 6, 5, 6, 6, 7, 3, 4, 4, 5, 4, 5, 5, 6, 4, 5, 5, 6, 5, 6, 6, 7, 4, 5, 5, 6, 5, 6, 6, 7, 5, 6, 6, 7, 6, 7, 7, 8])).toArray⟩ : ByteArray) = Lib.pop8tab := by decide +kernel

set_option maxHeartbeats 1000000 in
set_option maxRecDepth 100000 in
theorem onesCount_any (W : Nat) (w : World) (hW : W < 65536) : Calls Tryd.prog 56 #[.int .u32 W] w fun e w' => e = .returned (.int .i64 (bs W 16)) ∧ Below w.heap.size w w' := by
  have hs := bs_split W
  have hh : W / 256 < 256 := by omega
  have hl : W % 256 < 256 := by omega
  have k1 : (W : Int) / 16777216 = 0 := by omega
  have k2 : bits .and .u32 ((W : Int) / 65536) 255 = 0 := by
    rw [show (W : Int) / 65536 = ((0 : Nat) : Int) from by omega, show (255 : Int) = ((255 : Nat) : Int) from rfl, u32_and_nat 0 255 (by omega) (by omega)]; rfl
  have k3 : bits .and .u32 ((W : Int) / 256) 255 = ((W / 256 : Nat) : Int) := by
    rw [show (W : Int) / 256 = ((W / 256 : Nat) : Int) from by omega, show (255 : Int) = ((255 : Nat) : Int) from rfl, u32_and_nat (W / 256) 255 (by omega) (by omega), show 255 = 2 ^ 8 - 1 from rfl, Nat.and_two_pow_sub_one_eq_mod, Nat.mod_eq_of_lt (by omega)]
  have k4 : bits .and .u32 (W : Int) 255 = ((W % 256 : Nat) : Int) := by
    rw [show (255 : Int) = ((255 : Nat) : Int) from rfl, u32_and_nat W 255 (by omega) (by omega), show 255 = 2 ^ 8 - 1 from rfl, Nat.and_two_pow_sub_one_eq_mod]
  obtain ⟨h, hhe⟩ : ∃ h, W / 256 = h := ⟨_, rfl⟩
  obtain ⟨l, hle⟩ : ∃ l, W % 256 = l := ⟨_, rfl⟩
  rw [hhe] at hs hh k3
  rw [hle] at hs hl k4
  have p0 : Lib.pop8 0 = 0 := by decide +kernel
  have p1 := pop8_nat h hh
  have p2 := pop8_nat l hl
  have b1 := bs_le h 8
  have b2 := bs_le l 8
  obtain ⟨x, hx⟩ : ∃ x, bs h 8 = x := ⟨_, rfl⟩
  obtain ⟨y, hy⟩ : ∃ y, bs l 8 = y := ⟨_, rfl⟩
  obtain ⟨z, hz⟩ : ∃ z, bs W 16 = z := ⟨_, rfl⟩
  rw [hx] at hs p1 b1
  rw [hy] at hs p2 b2
  rw [hz] at hs ⊢
  have HS := Lib.hid hs
  have q1 : (0 : Int) ≤ (h : Int) := by omega
  have q2 : (h : Int) ≤ 255 := by omega
  have q3 : (0 : Int) ≤ (l : Int) := by omega
  have q4 : (l : Int) ≤ 255 := by omega
  clear hs hhe hle hx hy hz hh hl
  go_enter Tryd.func56, Tryd.ntmps56
  go_wp2
  simp only [foldP]
  go_quiet (fail)
  go_wp2
  go_ret
  exact ⟨by rw [HS.out]; exact congrArg (fun n => Ending.returned (.int .i64 n)) (by omega), Joins.below_draws _ _ _⟩
end Go.Proofs.YthblhibkbcmbaaaDoor
