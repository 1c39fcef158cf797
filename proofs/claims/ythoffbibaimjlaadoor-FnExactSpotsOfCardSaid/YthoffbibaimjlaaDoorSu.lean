/- Contracts of single functions, and plain lemmas, on which the exact laws of this seat rest; each holds under the conditions that it states. -/
import Derived.Test.YthoffbibaimjlaaDoorPb
import Derived.RegionTactic
import Derived.ChangeAlike
import Derived.BigRegion
namespace Go.Proofs.YthoffbibaimjlaaDoor
set_option linter.unusedVariables false
open Go.RowKit

/-! ### set: a bit of a word -/
def clrW (W p : Nat) : Nat := W &&& (4294967295 - 2 ^ p)
def updW (W p : Nat) (bk : Bool) : Nat := if bk then clrW W p ||| 2 ^ p else clrW W p
theorem shl_mod (p : Nat) (hp : p < 16) : ((2 : Int) ^ p % 4294967296) = ((2 ^ p : Nat) : Int) := by
  have h : 2 ^ p ≤ 2 ^ 15 := Nat.pow_le_pow_right (by omega) (by omega)
  have e : ((2 : Int) ^ p) = ((2 ^ p : Nat) : Int) := by push_cast; rfl
  rw [e]
  obtain ⟨K, hK⟩ : ∃ K, 2 ^ p = K := ⟨_, rfl⟩
  rw [hK] at h ⊢
  omega
theorem clr_bits (W p : Nat) (hW : W < 4294967296) (hp : p < 16) : bits .andNot .u32 (W : Int) ((2 : Int) ^ p % 4294967296) = ((clrW W p : Nat) : Int) := by
  have h : 2 ^ p ≤ 2 ^ 15 := Nat.pow_le_pow_right (by omega) (by omega)
  rw [shl_mod p hp, u32_andNot_nat W (2 ^ p) hW (by omega)]
  rfl
theorem clr_lt (W p : Nat) (hW : W < 4294967296) : clrW W p < 4294967296 := Nat.lt_of_le_of_lt Nat.and_le_left hW
theorem or_bits (W p : Nat) (hW : W < 4294967296) (hp : p < 16) : bits .or .u32 (W : Int) ((2 : Int) ^ p % 4294967296) = ((W ||| 2 ^ p : Nat) : Int) := by
  have h : 2 ^ p ≤ 2 ^ 15 := Nat.pow_le_pow_right (by omega) (by omega)
  rw [shl_mod p hp, u32_or_nat W (2 ^ p) hW (by omega)]
theorem upd_lt (W p : Nat) (bk : Bool) (hW : W < 4294967296) (hp : p < 16) : updW W p bk < 4294967296 := by
  have h : 2 ^ p ≤ 2 ^ 15 := Nat.pow_le_pow_right (by omega) (by omega)
  have h1 := clr_lt W p hW
  unfold updW
  split
  · exact Nat.or_lt_two_pow (n := 32) h1 (by omega)
  · exact h1
theorem clr_bit (W p i : Nat) (hp : p < 16) (hi : i < 16) : (clrW W p).testBit i = (W.testBit i && !decide (i = p)) := by
  unfold clrW
  rw [Nat.testBit_and]
  congr 1
  have e : (4294967295 - 2 ^ p) = 2 ^ 32 - (2 ^ p + 1) := by omega
  have h : 2 ^ p ≤ 2 ^ 15 := Nat.pow_le_pow_right (by omega) (by omega)
  rw [e, Nat.testBit_two_pow_sub_succ (by omega), Nat.testBit_two_pow, decide_eq_true (show i < 32 by omega), Bool.true_and, decide_eq_decide.2 (show p = i ↔ i = p from eq_comm)]
theorem upd_bit (W p i : Nat) (bk : Bool) (hp : p < 16) (hi : i < 16) : (updW W p bk).testBit i = if i = p then bk else W.testBit i := by
  unfold updW
  cases bk with
  | true =>
    simp only [if_true, Nat.testBit_or, clr_bit W p i hp hi, Nat.testBit_two_pow]
    by_cases h : i = p
    · subst h; simp
    · simp [h, show ¬ p = i from fun e => h e.symm]
  | false =>
    simp only [Bool.false_eq_true, if_false, clr_bit W p i hp hi]
    by_cases h : i = p <;> simp [h]

def updG (g : Nat → Nat) (q p : Nat) (bk : Bool) (j : Nat) : Nat := if j = q then updW (g q) p bk else g j

theorem mat_set (a b : Nat) (g : Nat → Nat) (q : Nat) (hq : q < 16) (x : Nat) : (mat a b g).setIfInBounds (2 + q) (.int .u32 x) = mat a b (fun j => if j = q then x else g j) := by
  unfold mat
  rw [mcells_set _ _ _ q hq]
  congr 1
  funext j
  show _ = ((if j = q then x else g j : Nat) : Int)
  split <;> rfl

def Setted (w : World) (mb a b : Nat) (g : Nat → Nat) (q p : Nat) (bk : Bool) (e : Ending) (w' : World) : Prop :=
  e = .returned (.tuple #[]) ∧ w'.heap[mb]? = some (.cells (mat a b (updG g q p bk)) 44 (0, 0)) ∧ Below mb w w'

theorem upd_all {g : Nat → Nat} (hg : ∀ j, g j < 4294967296) (q p : Nat) (bk : Bool) (hp : p < 16) (j : Nat) : updG g q p bk j < 4294967296 := by
  unfold updG
  split
  · exact upd_lt _ p bk (hg q) hp
  · exact hg j

end Go.Proofs.YthoffbibaimjlaaDoor
