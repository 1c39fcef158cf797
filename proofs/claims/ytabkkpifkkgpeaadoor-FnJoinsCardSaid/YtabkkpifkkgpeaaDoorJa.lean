/- Contracts of single functions, and plain lemmas, on which the exact laws of this seat rest; each holds under the conditions that it states. -/
import Derived.Test.YtabkkpifkkgpeaaDoorIn
import Derived.RegionTactic
import Derived.BigRegion
namespace Go.Proofs.YtabkkpifkkgpeaaDoor
set_option linter.unusedVariables false
set_option linter.unusedSimpArgs false
open Go.RowKit

/-- the first i of a list are joined with another list's -/
def mixJ (f : Bool → Bool → Bool) (l m : List Bool) (i : Nat) : List Bool := (List.range l.length).map fun j => if j < i then f (l.getD j false) (m.getD j false) else l.getD j false
theorem mixJ_len (f : Bool → Bool → Bool) (l m : List Bool) (i : Nat) : (mixJ f l m i).length = l.length := by simp [mixJ]
theorem mixJ_at (f : Bool → Bool → Bool) (l m : List Bool) (i j : Nat) (hj : j < l.length) : (mixJ f l m i)[j]? = some (if j < i then f (l.getD j false) (m.getD j false) else l.getD j false) := by
  simp [mixJ, hj]
theorem mixJ_zero (f : Bool → Bool → Bool) (l m : List Bool) : mixJ f l m 0 = l := by
  apply List.ext_getElem?
  intro j
  by_cases hj : j < l.length
  · rw [mixJ_at f l m 0 j hj, if_neg (by omega), List.getD_eq_getElem?_getD, List.getElem?_eq_getElem hj]; rfl
  · rw [List.getElem?_eq_none (by rw [mixJ_len]; omega), List.getElem?_eq_none (by omega)]
theorem mixJ_set (f : Bool → Bool → Bool) (l m : List Bool) (i : Nat) (hi : i < l.length) : (mixJ f l m i).set i (f (l.getD i false) (m.getD i false)) = mixJ f l m (i + 1) := by
  apply List.ext_getElem?
  intro j
  by_cases hj : j < l.length
  · rw [mixJ_at f l m (i + 1) j hj]
    by_cases h : i = j
    · subst h
      rw [List.getElem?_set_self (by rw [mixJ_len]; exact hj), if_pos (by omega)]
    · rw [List.getElem?_set_ne h, mixJ_at f l m i j hj]
      by_cases h2 : j < i
      · rw [if_pos h2, if_pos (by omega)]
      · rw [if_neg h2, if_neg (by omega)]
  · rw [List.getElem?_eq_none (by rw [List.length_set, mixJ_len]; omega), List.getElem?_eq_none (by rw [mixJ_len]; omega)]
theorem mixJ_all (f : Bool → Bool → Bool) (l m : List Bool) (j : Nat) (hj : j < l.length) : (mixJ f l m l.length).getD j false = f (l.getD j false) (m.getD j false) := by
  rw [List.getD_eq_getElem?_getD, mixJ_at f l m _ j hj, if_pos hj]; rfl

def joF (f : Bool → Bool → Bool) (ss tt : List ByteArray) (y x : Nat) : Bool := f (pixF ss y x) (pixF tt y x)
theorem jo_at (f : Bool → Bool → Bool) (ss tt : List ByteArray) (wd h y x : Nat) (hy : y < h) (hx : x < wd) : (mixJ f (pixL ss wd (wd * h)) (pixL tt wd (wd * h)) (wd * h)).getD (y * wd + x) false = joF f ss tt y x := by
  have h3 : (y + 1) * wd ≤ h * wd := Nat.mul_le_mul_right _ hy
  rw [Nat.add_mul, Nat.one_mul, Nat.mul_comm h wd] at h3
  have := mixJ_all f (pixL ss wd (wd * h)) (pixL tt wd (wd * h)) (y * wd + x) (by rw [pixL_len]; omega)
  rw [pixL_len, pixL_at ss wd h y x hy hx, pixL_at tt wd h y x hy hx] at this
  exact this
def jF0 (p q : Bool) : Bool := (p && q)
def jW0 (W V : Nat) : Nat := W &&& V
def jF1 (p q : Bool) : Bool := (p || q)
def jW1 (W V : Nat) : Nat := W ||| V
def jF2 (p q : Bool) : Bool := (p != q)
def jW2 (W V : Nat) : Nat := W ^^^ V
def jF3 (p q : Bool) : Bool := (p && !q)
def jW3 (W V : Nat) : Nat := anW W V
theorem jB0 (W V x : Nat) (hV : V < 4294967296) (hx : x < 32) : (jW0 W V).testBit x = jF0 (W.testBit x) (V.testBit x) := by unfold jW0 jF0; rw [Nat.testBit_and]
theorem jB1 (W V x : Nat) (hV : V < 4294967296) (hx : x < 32) : (jW1 W V).testBit x = jF1 (W.testBit x) (V.testBit x) := by unfold jW1 jF1; rw [Nat.testBit_or]
theorem jB2 (W V x : Nat) (hV : V < 4294967296) (hx : x < 32) : (jW2 W V).testBit x = jF2 (W.testBit x) (V.testBit x) := by unfold jW2 jF2; rw [Nat.testBit_xor]
theorem jB3 (W V x : Nat) (hV : V < 4294967296) (hx : x < 32) : (jW3 W V).testBit x = jF3 (W.testBit x) (V.testBit x) := by unfold jW3 jF3; rw [an_bit W V x hV hx]
theorem jL0 (W V : Nat) (hW : W < 4294967296) (hV : V < 4294967296) : jW0 W V < 4294967296 := Nat.lt_of_le_of_lt Nat.and_le_left hW
theorem jL1 (W V : Nat) (hW : W < 4294967296) (hV : V < 4294967296) : jW1 W V < 4294967296 := Nat.or_lt_two_pow (n := 32) hW hV
theorem jL2 (W V : Nat) (hW : W < 4294967296) (hV : V < 4294967296) : jW2 W V < 4294967296 := Nat.xor_lt_two_pow (n := 32) hW hV
theorem jL3 (W V : Nat) (hW : W < 4294967296) (hV : V < 4294967296) : jW3 W V < 4294967296 := Nat.lt_of_le_of_lt Nat.and_le_left hW
theorem jO0 (W V : Nat) (hW : W < 4294967296) (hV : V < 4294967296) : bits .and .u32 (W : Int) (V : Int) = ((jW0 W V : Nat) : Int) := u32_and_nat W V hW hV
theorem jO1 (W V : Nat) (hW : W < 4294967296) (hV : V < 4294967296) : bits .or .u32 (W : Int) (V : Int) = ((jW1 W V : Nat) : Int) := u32_or_nat W V hW hV
theorem jO2 (W V : Nat) (hW : W < 4294967296) (hV : V < 4294967296) : bits .xor .u32 (W : Int) (V : Int) = ((jW2 W V : Nat) : Int) := u32_xor_nat W V hW hV
theorem jO3 (W V : Nat) (hW : W < 4294967296) (hV : V < 4294967296) : bits .andNot .u32 (W : Int) (V : Int) = ((jW3 W V : Nat) : Int) := an_bits W V hW hV

set_option maxHeartbeats 400000 in
theorem join_0 (W V : Nat) (w : World) (hW : W < 4294967296) (hV : V < 4294967296) : Calls Tryd.prog 85 #[.int .i64 0, .int .u32 W, .int .u32 V] w fun e w' => e = .returned (.int .u32 (jW0 W V)) ∧ w = w' := by
  have k1 := jO0 W V hW hV
  obtain ⟨z, hz⟩ : ∃ z, jW0 W V = z := ⟨_, rfl⟩
  rw [hz] at k1 ⊢
  clear hW hV hz
  go_enter Tryd.func85, Tryd.ntmps85
  go_wp2
  go_ret
  exact ⟨rfl, rfl⟩

set_option maxHeartbeats 400000 in
theorem join_1 (W V : Nat) (w : World) (hW : W < 4294967296) (hV : V < 4294967296) : Calls Tryd.prog 85 #[.int .i64 1, .int .u32 W, .int .u32 V] w fun e w' => e = .returned (.int .u32 (jW1 W V)) ∧ w = w' := by
  have k1 := jO1 W V hW hV
  obtain ⟨z, hz⟩ : ∃ z, jW1 W V = z := ⟨_, rfl⟩
  rw [hz] at k1 ⊢
  clear hW hV hz
  go_enter Tryd.func85, Tryd.ntmps85
  go_wp2
  go_ret
  exact ⟨rfl, rfl⟩

set_option maxHeartbeats 400000 in
theorem join_2 (W V : Nat) (w : World) (hW : W < 4294967296) (hV : V < 4294967296) : Calls Tryd.prog 85 #[.int .i64 2, .int .u32 W, .int .u32 V] w fun e w' => e = .returned (.int .u32 (jW2 W V)) ∧ w = w' := by
  have k1 := jO2 W V hW hV
  obtain ⟨z, hz⟩ : ∃ z, jW2 W V = z := ⟨_, rfl⟩
  rw [hz] at k1 ⊢
  clear hW hV hz
  go_enter Tryd.func85, Tryd.ntmps85
  go_wp2
  go_ret
  exact ⟨rfl, rfl⟩

set_option maxHeartbeats 400000 in
theorem join_3 (W V : Nat) (w : World) (hW : W < 4294967296) (hV : V < 4294967296) : Calls Tryd.prog 85 #[.int .i64 3, .int .u32 W, .int .u32 V] w fun e w' => e = .returned (.int .u32 (jW3 W V)) ∧ w = w' := by
  have k1 := jO3 W V hW hV
  obtain ⟨z, hz⟩ : ∃ z, jW3 W V = z := ⟨_, rfl⟩
  rw [hz] at k1 ⊢
  clear hW hV hz
  go_enter Tryd.func85, Tryd.ntmps85
  go_wp2
  go_ret
  exact ⟨rfl, rfl⟩
end Go.Proofs.YtabkkpifkkgpeaaDoor
