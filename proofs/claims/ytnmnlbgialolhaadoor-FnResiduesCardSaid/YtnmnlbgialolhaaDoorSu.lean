/- Contracts of single functions, and plain lemmas, on which the exact laws of this seat rest; each holds under the conditions that it states. -/
import Derived.Test.YtnmnlbgialolhaaDoorPb
import Derived.RegionTactic
import Derived.ChangeAlike
import Derived.BigRegion
namespace Go.Proofs.YtnmnlbgialolhaaDoor
set_option linter.unusedVariables false
open Go.RowKit

/-! ### set: a bit of a word -/
def clrW (W p : Nat) : Nat := W &&& (4294967295 - 2 ^ p)
def updW (W p : Nat) (bk : Bool) : Nat := if bk then clrW W p ||| 2 ^ p else clrW W p
theorem shl_mod (p : Nat) (hp : p < 16) : ((2 : Int) ^ p % 4294967296) = ((2 ^ p : Nat) : Int) := by
  have h : 2 ^ p ≤ 2 ^ 15 := Nat.pow_le_pow_right (by omega) (by omega)
  have e : ((2 : Int) ^ p) = ((2 ^ p : Nat) : Int) := by push_cast; rfl
  rw [e]
  obtain ⟨K, hK⟩ : ∃ K, 2 ^ p = K := ⟨_, rfl⟩
  rw [hK] at h ⊢
  omega
theorem clr_bits (W p : Nat) (hW : W < 4294967296) (hp : p < 16) : bits .andNot .u32 (W : Int) ((2 : Int) ^ p % 4294967296) = ((clrW W p : Nat) : Int) := by
  have h : 2 ^ p ≤ 2 ^ 15 := Nat.pow_le_pow_right (by omega) (by omega)
  rw [shl_mod p hp, u32_andNot_nat W (2 ^ p) hW (by omega)]
  rfl
theorem clr_lt (W p : Nat) (hW : W < 4294967296) : clrW W p < 4294967296 := Nat.lt_of_le_of_lt Nat.and_le_left hW
theorem or_bits (W p : Nat) (hW : W < 4294967296) (hp : p < 16) : bits .or .u32 (W : Int) ((2 : Int) ^ p % 4294967296) = ((W ||| 2 ^ p : Nat) : Int) := by
  have h : 2 ^ p ≤ 2 ^ 15 := Nat.pow_le_pow_right (by omega) (by omega)
  rw [shl_mod p hp, u32_or_nat W (2 ^ p) hW (by omega)]
theorem upd_lt (W p : Nat) (bk : Bool) (hW : W < 4294967296) (hp : p < 16) : updW W p bk < 4294967296 := by
  have h : 2 ^ p ≤ 2 ^ 15 := Nat.pow_le_pow_right (by omega) (by omega)
  have h1 := clr_lt W p hW
  unfold updW
  split
  · exact Nat.or_lt_two_pow (n := 32) h1 (by omega)
  · exact h1
theorem clr_bit (W p i : Nat) (hp : p < 16) (hi : i < 16) : (clrW W p).testBit i = (W.testBit i && !decide (i = p)) := by
  unfold clrW
  rw [Nat.testBit_and]
  congr 1
  have e : (4294967295 - 2 ^ p) = 2 ^ 32 - (2 ^ p + 1) := by omega
  have h : 2 ^ p ≤ 2 ^ 15 := Nat.pow_le_pow_right (by omega) (by omega)
  rw [e, Nat.testBit_two_pow_sub_succ (by omega), Nat.testBit_two_pow, decide_eq_true (show i < 32 by omega), Bool.true_and, decide_eq_decide.2 (show p = i ↔ i = p from eq_comm)]
theorem upd_bit (W p i : Nat) (bk : Bool) (hp : p < 16) (hi : i < 16) : (updW W p bk).testBit i = if i = p then bk else W.testBit i := by
  unfold updW
  cases bk with
  | true =>
    simp only [if_true, Nat.testBit_or, clr_bit W p i hp hi, Nat.testBit_two_pow]
    by_cases h : i = p
    · subst h; simp
    · simp [h, show ¬ p = i from fun e => h e.symm]
  | false =>
    simp only [Bool.false_eq_true, if_false, clr_bit W p i hp hi]
    by_cases h : i = p <;> simp [h]

def updG (g : Nat → Nat) (q p : Nat) (bk : Bool) (j : Nat) : Nat := if j = q then updW (g q) p bk else g j

theorem mat_set (a b : Nat) (g : Nat → Nat) (q : Nat) (hq : q < 16) (x : Nat) : (mat a b g).setIfInBounds (2 + q) (.int .u32 x) = mat a b (fun j => if j = q then x else g j) := by
  unfold mat
  rw [mcells_set _ _ _ q hq]
  congr 1
  funext j
  show _ = ((if j = q then x else g j : Nat) : Int)
  split <;> rfl

def Setted (w : World) (mb a b : Nat) (g : Nat → Nat) (q p : Nat) (bk : Bool) (e : Ending) (w' : World) : Prop :=
  e = .returned (.tuple #[]) ∧ w'.heap[mb]? = some (.cells (mat a b (updG g q p bk)) 63 (0, 0)) ∧ Below mb w w'

set_option maxHeartbeats 2000000 in
set_option maxRecDepth 100000 in
theorem set_any (mb a b : Nat) (g : Nat → Nat) (p q : Nat) (bk : Bool) (w : World) (hm : w.heap[mb]? = some (.cells (mat a b g) 63 (0, 0))) (hp : p < 16) (hq : q < 16) (hg : g q < 4294967296) :
    Calls Tryd.prog 75 #[.pointer (some ⟨mb, 0, none⟩), .int .i64 p, .int .i64 q, .bool bk] w (Setted w mb a b g q p bk) := by
  have cq : w.cell? ⟨mb, 2 + q, none⟩ = some (.int .u32 (g q)) := by
    rw [Joins.cell_of_block hm (2 + q)]; exact mcells_word _ _ _ q hq
  have fz : w.frozen? ⟨mb, 2 + q, none⟩ = false := by simp [World.frozen?, hm]
  have k1 := clr_bits (g q) p hg hp
  have k2 := or_bits (clrW (g q) p) p (clr_lt _ p hg) hp
  have h1 : Hid ((w.setCell ⟨mb, 2 + q, none⟩ (.int .u32 (clrW (g q) p))).heap[mb]? = some (.cells (mat a b (fun j => if j = q then clrW (g q) p else g j)) 63 (0, 0))) := by
    have := Lib.heap_setCell_same (i := 2 + q) hm (.int .u32 (clrW (g q) p))
    rw [mat_set a b g q hq] at this
    exact this
  have h2 : Hid (((w.setCell ⟨mb, 2 + q, none⟩ (.int .u32 (clrW (g q) p))).setCell ⟨mb, 2 + q, none⟩ (.int .u32 (clrW (g q) p ||| 2 ^ p : Nat))).heap[mb]? = some (.cells (mat a b (fun j => if j = q then clrW (g q) p ||| 2 ^ p else g j)) 63 (0, 0))) := by
    have := Lib.heap_setCell_same (i := 2 + q) h1.out (.int .u32 (clrW (g q) p ||| 2 ^ p : Nat))
    rw [mat_set a b _ q hq] at this
    have e : (fun j => if j = q then clrW (g q) p ||| 2 ^ p else if j = q then clrW (g q) p else g j) = (fun j => if j = q then clrW (g q) p ||| 2 ^ p else g j) := by
      funext j; split <;> rfl
    rw [e] at this
    exact this
  have kq : (q : Int) < 16 := by omega
  have HU : Hid (updG g q p = fun bk j => if j = q then updW (g q) p bk else g j) := rfl
  obtain ⟨W, hW⟩ : ∃ W, g q = W := ⟨_, rfl⟩
  rw [hW] at cq k1 k2 h1 h2 HU
  clear hg hW hm
  cases bk with
  | false =>
    have HE : Setted w mb a b g q p false (.returned (.tuple #[])) (w.setCell ⟨mb, 2 + q, none⟩ (.int .u32 (clrW W p))).drew := ⟨rfl, by rw [HU.out]; exact h1.out, (Below.setCell (p := ⟨mb, 2 + q, none⟩) (Below.refl mb w) (Nat.le_refl _) _).drew⟩
    have HE' := Lib.hid HE
    clear HE
    go_enter Tryd.func75, Tryd.ntmps75
    go_wp2
    go_region
    go_wp2
    go_end0
    exact HE'.out
  | true =>
    have b1 : Below mb w (w.setCell ⟨mb, 2 + q, none⟩ (.int .u32 (clrW W p))).drew := (Below.setCell (p := ⟨mb, 2 + q, none⟩) (Below.refl mb w) (Nat.le_refl _) _).drew
    have b2 : Below mb w (((w.setCell ⟨mb, 2 + q, none⟩ (.int .u32 (clrW W p))).drew.setCell ⟨mb, 2 + q, none⟩ (.int .u32 (clrW W p ||| 2 ^ p : Nat)))).drew := (Below.setCell (p := ⟨mb, 2 + q, none⟩) b1 (Nat.le_refl _) _).drew
    have HE : Setted w mb a b g q p true (.returned (.tuple #[])) (((w.setCell ⟨mb, 2 + q, none⟩ (.int .u32 (clrW W p))).drew.setCell ⟨mb, 2 + q, none⟩ (.int .u32 (clrW W p ||| 2 ^ p : Nat)))).drew := ⟨rfl, by rw [HU.out]; exact h2.out, b2⟩
    have HE' := Lib.hid HE
    have cq2 : (w.setCell ⟨mb, 2 + q, none⟩ (.int .u32 (clrW W p))).drew.cell? ⟨mb, 2 + q, none⟩ = some (.int .u32 (clrW W p)) := by
      show (w.setCell ⟨mb, 2 + q, none⟩ (.int .u32 (clrW W p))).cell? ⟨mb, 2 + q, none⟩ = _
      rw [Joins.cell_of_block h1.out (2 + q)]
      have := mcells_word a b (fun j => ((if j = q then clrW W p else g j : Nat) : Int)) q hq
      unfold mat
      rw [this, if_pos rfl]
    have fz2 : (w.setCell ⟨mb, 2 + q, none⟩ (.int .u32 (clrW W p))).drew.frozen? ⟨mb, 2 + q, none⟩ = false := by
      show (w.setCell ⟨mb, 2 + q, none⟩ (.int .u32 (clrW W p))).frozen? ⟨mb, 2 + q, none⟩ = false
      have := h1.out
      simp [World.frozen?, this]
    clear HE b1 b2
    go_enter Tryd.func75, Tryd.ntmps75
    go_wp2
    go_region
    obtain ⟨w1, hw1⟩ : ∃ w1, (w.setCell ⟨mb, 2 + q, none⟩ (.int .u32 (clrW W p))).drew = w1 := ⟨_, rfl⟩
    rw [hw1] at cq2 fz2 HE' ⊢
    clear hw1 cq fz h1 h2
    go_wp2
    go_region
    go_wp2
    go_end0
    exact HE'.out
theorem upd_all {g : Nat → Nat} (hg : ∀ j, g j < 4294967296) (q p : Nat) (bk : Bool) (hp : p < 16) (j : Nat) : updG g q p bk j < 4294967296 := by
  unfold updG
  split
  · exact upd_lt _ p bk (hg q) hp
  · exact hg j

end Go.Proofs.YtnmnlbgialolhaaDoor
