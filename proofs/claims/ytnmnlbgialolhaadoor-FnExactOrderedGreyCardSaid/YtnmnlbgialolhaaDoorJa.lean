/- Contracts of single functions, and plain lemmas, on which the exact laws of this seat rest; each holds under the conditions that it states. -/
import Derived.Test.YtnmnlbgialolhaaDoorLi
import Derived.Test.YtnmnlbgialolhaaDoorCc
import Derived.RegionTactic
import Derived.BigRegion
namespace Go.Proofs.YtnmnlbgialolhaaDoor
set_option linter.unusedVariables false
set_option linter.unusedSimpArgs false
open Go.RowKit

def NoMats (w : World) (e : Ending) (w' : World) : Prop := e = .returned (.tuple #[.agg zeros, .agg zeros, .bool false]) ∧ Below w.heap.size w w'

end Go.Proofs.YtnmnlbgialolhaaDoor

/- Contracts of single functions, and plain lemmas, on which the exact laws of this seat rest; each holds under the conditions that it states. -/
namespace Go.Proofs.YtnmnlbgialolhaaDoor
set_option linter.unusedVariables false
set_option linter.unusedSimpArgs false
open Go.RowKit

/-- the bits of one word that are not in the other one -/
def anW (W V : Nat) : Nat := W &&& (4294967295 - V)
theorem an_bits (W V : Nat) (hW : W < 4294967296) (hV : V < 4294967296) : bits .andNot .u32 (W : Int) (V : Int) = ((anW W V : Nat) : Int) := by
  rw [u32_andNot_nat W V hW hV]; rfl
theorem an_bit (W V x : Nat) (hV : V < 4294967296) (hx : x < 32) : (anW W V).testBit x = (W.testBit x && !V.testBit x) := by
  unfold anW
  rw [Nat.testBit_and]
  congr 1
  rw [show 4294967295 - V = 2 ^ 32 - (V + 1) from by omega, Nat.testBit_two_pow_sub_succ (by omega), decide_eq_true hx, Bool.true_and]

theorem sub_yes {ss tt : List ByteArray} (V : VP ss) (V2 : VP tt) (hw : (row0 ss).size = (row0 tt).size) (hh : ss.length = tt.length) (h : ∀ j, j < 16 → anW (wordsOf ss j) (wordsOf tt j) = 0) :
    subB (pixL ss (row0 ss).size ((row0 ss).size * ss.length)) (pixL tt (row0 ss).size ((row0 ss).size * ss.length)) = true := by
  refine subB_yes fun i hi => ?_
  rw [pixL_len] at hi
  have hw1 := V.w1
  have hx : i % (row0 ss).size < (row0 ss).size := Nat.mod_lt _ (by omega)
  have hy : i / (row0 ss).size < ss.length := Nat.div_lt_of_lt_mul hi
  have e1 : (pixL ss (row0 ss).size ((row0 ss).size * ss.length)).getD i false = pixF ss (i / (row0 ss).size) (i % (row0 ss).size) := by simp [pixL, List.getD, hi]
  have e2 : (pixL tt (row0 ss).size ((row0 ss).size * ss.length)).getD i false = pixF tt (i / (row0 ss).size) (i % (row0 ss).size) := by simp [pixL, List.getD, hi]
  rw [e1, e2, ← words_at V _ _ hy hx, ← words_at V2 _ _ (by omega) (by omega)]
  have := h (i / (row0 ss).size) (by have := V.n16; omega)
  have hb := an_bit (wordsOf ss (i / (row0 ss).size)) (wordsOf tt (i / (row0 ss).size)) (i % (row0 ss).size) (words_lt V2 _) (by have := V.w16; omega)
  rw [this, Nat.zero_testBit] at hb
  intro ht
  rw [ht] at hb
  simpa using hb.symm

theorem sub_no {ss tt : List ByteArray} (V : VP ss) (V2 : VP tt) (hw : (row0 ss).size = (row0 tt).size) (hh : ss.length = tt.length) {j : Nat} (h : anW (wordsOf ss j) (wordsOf tt j) ≠ 0) :
    subB (pixL ss (row0 ss).size ((row0 ss).size * ss.length)) (pixL tt (row0 ss).size ((row0 ss).size * ss.length)) = false := by
  obtain ⟨x, hx⟩ : ∃ x, (anW (wordsOf ss j) (wordsOf tt j)).testBit x = true := by
    by_cases hc : ∃ x, (anW (wordsOf ss j) (wordsOf tt j)).testBit x = true
    · exact hc
    · exfalso
      refine h (Nat.eq_of_testBit_eq fun x => ?_)
      rw [Nat.zero_testBit]
      cases hb : (anW (wordsOf ss j) (wordsOf tt j)).testBit x with
      | false => rfl
      | true => exact absurd ⟨x, hb⟩ hc
  have hs : (wordsOf ss j).testBit x = true := by
    unfold anW at hx
    rw [Nat.testBit_and] at hx
    exact (Bool.and_eq_true_iff.1 hx).1
  have hj : j < ss.length := by
    by_cases hc : j < ss.length
    · exact hc
    · unfold wordsOf at hs
      rw [if_neg hc, Nat.zero_testBit] at hs
      exact absurd hs (by decide)
  have hxw : x < (row0 ss).size := by
    by_cases hc : x < (row0 ss).size
    · exact hc
    · have h1 := words_lt_pow V j
      have h2 : 2 ^ (row0 ss).size ≤ 2 ^ x := Nat.pow_le_pow_right (by omega) (by omega)
      rw [Nat.testBit_lt_two_pow (by omega)] at hs
      exact absurd hs (by decide)
  have hb := an_bit (wordsOf ss j) (wordsOf tt j) x (words_lt V2 _) (by have := V.w16; omega)
  rw [hx, hs, Bool.true_and] at hb
  have ht : (wordsOf tt j).testBit x = false := by simpa using hb.symm
  have h3 : (j + 1) * (row0 ss).size ≤ ss.length * (row0 ss).size := Nat.mul_le_mul_right _ hj
  rw [Nat.add_mul, Nat.one_mul, Nat.mul_comm ss.length] at h3
  refine subB_no (i := j * (row0 ss).size + x) (by rw [pixL_len]; omega) ?_ ?_
  · rw [pixL_at ss _ _ j x hj hxw, ← words_at V _ _ hj hxw]; exact hs
  · rw [pixL_at tt _ _ j x hj hxw, ← words_at V2 _ _ (by omega) (by omega)]; exact ht

end Go.Proofs.YtnmnlbgialolhaaDoor

/- Contracts of single functions, and plain lemmas, on which the exact laws of this seat rest; each holds under the conditions that it states. -/
namespace Go.Proofs.YtnmnlbgialolhaaDoor
set_option linter.unusedVariables false
set_option linter.unusedSimpArgs false
open Go.RowKit

/-- the first i of a list are joined with another list's -/
def mixJ (f : Bool → Bool → Bool) (l m : List Bool) (i : Nat) : List Bool := (List.range l.length).map fun j => if j < i then f (l.getD j false) (m.getD j false) else l.getD j false
theorem mixJ_len (f : Bool → Bool → Bool) (l m : List Bool) (i : Nat) : (mixJ f l m i).length = l.length := by simp [mixJ]
theorem mixJ_at (f : Bool → Bool → Bool) (l m : List Bool) (i j : Nat) (hj : j < l.length) : (mixJ f l m i)[j]? = some (if j < i then f (l.getD j false) (m.getD j false) else l.getD j false) := by
  simp [mixJ, hj]
theorem mixJ_zero (f : Bool → Bool → Bool) (l m : List Bool) : mixJ f l m 0 = l := by
  apply List.ext_getElem?
  intro j
  by_cases hj : j < l.length
  · rw [mixJ_at f l m 0 j hj, if_neg (by omega), List.getD_eq_getElem?_getD, List.getElem?_eq_getElem hj]; rfl
  · rw [List.getElem?_eq_none (by rw [mixJ_len]; omega), List.getElem?_eq_none (by omega)]
theorem mixJ_set (f : Bool → Bool → Bool) (l m : List Bool) (i : Nat) (hi : i < l.length) : (mixJ f l m i).set i (f (l.getD i false) (m.getD i false)) = mixJ f l m (i + 1) := by
  apply List.ext_getElem?
  intro j
  by_cases hj : j < l.length
  · rw [mixJ_at f l m (i + 1) j hj]
    by_cases h : i = j
    · subst h
      rw [List.getElem?_set_self (by rw [mixJ_len]; exact hj), if_pos (by omega)]
    · rw [List.getElem?_set_ne h, mixJ_at f l m i j hj]
      by_cases h2 : j < i
      · rw [if_pos h2, if_pos (by omega)]
      · rw [if_neg h2, if_neg (by omega)]
  · rw [List.getElem?_eq_none (by rw [List.length_set, mixJ_len]; omega), List.getElem?_eq_none (by rw [mixJ_len]; omega)]
theorem mixJ_all (f : Bool → Bool → Bool) (l m : List Bool) (j : Nat) (hj : j < l.length) : (mixJ f l m l.length).getD j false = f (l.getD j false) (m.getD j false) := by
  rw [List.getD_eq_getElem?_getD, mixJ_at f l m _ j hj, if_pos hj]; rfl

def joF (f : Bool → Bool → Bool) (ss tt : List ByteArray) (y x : Nat) : Bool := f (pixF ss y x) (pixF tt y x)
theorem jo_at (f : Bool → Bool → Bool) (ss tt : List ByteArray) (wd h y x : Nat) (hy : y < h) (hx : x < wd) : (mixJ f (pixL ss wd (wd * h)) (pixL tt wd (wd * h)) (wd * h)).getD (y * wd + x) false = joF f ss tt y x := by
  have h3 : (y + 1) * wd ≤ h * wd := Nat.mul_le_mul_right _ hy
  rw [Nat.add_mul, Nat.one_mul, Nat.mul_comm h wd] at h3
  have := mixJ_all f (pixL ss wd (wd * h)) (pixL tt wd (wd * h)) (y * wd + x) (by rw [pixL_len]; omega)
  rw [pixL_len, pixL_at ss wd h y x hy hx, pixL_at tt wd h y x hy hx] at this
  exact this
def jF0 (p q : Bool) : Bool := (p && q)
def jW0 (W V : Nat) : Nat := W &&& V
def jF1 (p q : Bool) : Bool := (p || q)
def jW1 (W V : Nat) : Nat := W ||| V
def jF2 (p q : Bool) : Bool := (p != q)
def jW2 (W V : Nat) : Nat := W ^^^ V
def jF3 (p q : Bool) : Bool := (p && !q)
def jW3 (W V : Nat) : Nat := anW W V
theorem jB0 (W V x : Nat) (hV : V < 4294967296) (hx : x < 32) : (jW0 W V).testBit x = jF0 (W.testBit x) (V.testBit x) := by unfold jW0 jF0; rw [Nat.testBit_and]
theorem jB1 (W V x : Nat) (hV : V < 4294967296) (hx : x < 32) : (jW1 W V).testBit x = jF1 (W.testBit x) (V.testBit x) := by unfold jW1 jF1; rw [Nat.testBit_or]
theorem jB2 (W V x : Nat) (hV : V < 4294967296) (hx : x < 32) : (jW2 W V).testBit x = jF2 (W.testBit x) (V.testBit x) := by unfold jW2 jF2; rw [Nat.testBit_xor]
theorem jB3 (W V x : Nat) (hV : V < 4294967296) (hx : x < 32) : (jW3 W V).testBit x = jF3 (W.testBit x) (V.testBit x) := by unfold jW3 jF3; rw [an_bit W V x hV hx]
theorem jL0 (W V : Nat) (hW : W < 4294967296) (hV : V < 4294967296) : jW0 W V < 4294967296 := Nat.lt_of_le_of_lt Nat.and_le_left hW
theorem jL1 (W V : Nat) (hW : W < 4294967296) (hV : V < 4294967296) : jW1 W V < 4294967296 := Nat.or_lt_two_pow (n := 32) hW hV
theorem jL2 (W V : Nat) (hW : W < 4294967296) (hV : V < 4294967296) : jW2 W V < 4294967296 := Nat.xor_lt_two_pow (n := 32) hW hV
theorem jL3 (W V : Nat) (hW : W < 4294967296) (hV : V < 4294967296) : jW3 W V < 4294967296 := Nat.lt_of_le_of_lt Nat.and_le_left hW
theorem jO0 (W V : Nat) (hW : W < 4294967296) (hV : V < 4294967296) : bits .and .u32 (W : Int) (V : Int) = ((jW0 W V : Nat) : Int) := u32_and_nat W V hW hV
theorem jO1 (W V : Nat) (hW : W < 4294967296) (hV : V < 4294967296) : bits .or .u32 (W : Int) (V : Int) = ((jW1 W V : Nat) : Int) := u32_or_nat W V hW hV
theorem jO2 (W V : Nat) (hW : W < 4294967296) (hV : V < 4294967296) : bits .xor .u32 (W : Int) (V : Int) = ((jW2 W V : Nat) : Int) := u32_xor_nat W V hW hV
theorem jO3 (W V : Nat) (hW : W < 4294967296) (hV : V < 4294967296) : bits .andNot .u32 (W : Int) (V : Int) = ((jW3 W V : Nat) : Int) := an_bits W V hW hV

end Go.Proofs.YtnmnlbgialolhaaDoor
