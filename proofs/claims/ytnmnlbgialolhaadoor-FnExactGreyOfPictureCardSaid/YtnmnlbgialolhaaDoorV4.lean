/- Contracts of single functions, and plain lemmas, on which the exact laws of this seat rest; each holds under the conditions that it states. -/
import Derived.Test.YtnmnlbgialolhaaDoorPb
import Derived.Shelf.Spec.TrailingZeros
namespace Go.Proofs.YtnmnlbgialolhaaDoor
set_option linter.unusedVariables false
set_option linter.unusedSimpArgs false
open Go.RowKit

/-! ### runs of a row -/
/-- how many ones end at a place -/
def bk (r : Nat → Bool) : Nat → Nat
  | 0 => 0
  | e + 1 => if r e then bk r e + 1 else 0
/-- the runs that end before a place: where they begin, how long they are -/
def rl (r : Nat → Bool) : Nat → List (Nat × Nat)
  | 0 => []
  | e + 1 => rl r e ++ (if 0 < bk r e ∧ r e = false then [(e - bk r e, bk r e)] else [])
theorem bk_le (r : Nat → Bool) : ∀ e, bk r e ≤ e
  | 0 => Nat.le_refl _
  | e + 1 => by
    have := bk_le r e
    unfold bk
    split <;> omega
theorem rl_len (r : Nat → Bool) : ∀ e, (rl r e).length ≤ e
  | 0 => Nat.le_refl _
  | e + 1 => by
    have := rl_len r e
    unfold rl
    rw [List.length_append]
    split
    · simp; omega
    · simp; omega
theorem rl_succ (r : Nat → Bool) (e : Nat) : rl r (e + 1) = rl r e ++ (if 0 < bk r e ∧ r e = false then [(e - bk r e, bk r e)] else []) := rfl
theorem bk_succ (r : Nat → Bool) (e : Nat) : bk r (e + 1) = if r e then bk r e + 1 else 0 := rfl
section
variable {r : Nat → Bool}
theorem rl_gap {t : Nat} (hb : bk r t = 0) : ∀ d, (∀ i, t ≤ i → i < t + d → r i = false) → rl r (t + d) = rl r t ∧ bk r (t + d) = 0
  | 0, _ => ⟨rfl, hb⟩
  | d + 1, h => by
    obtain ⟨h1, h2⟩ := rl_gap hb d (fun i a b => h i a (by omega))
    have h3 := h (t + d) (by omega) (by omega)
    constructor
    · rw [show t + (d + 1) = t + d + 1 from rfl, rl_succ, h1, h2, if_neg (by omega), List.append_nil]
    · rw [show t + (d + 1) = t + d + 1 from rfl, bk_succ, h3]
      rfl
theorem rl_run {s : Nat} (hb : bk r s = 0) : ∀ l, (∀ i, s ≤ i → i < s + l → r i = true) → rl r (s + l) = rl r s ∧ bk r (s + l) = l
  | 0, _ => ⟨rfl, hb⟩
  | l + 1, h => by
    obtain ⟨h1, h2⟩ := rl_run hb l (fun i a b => h i a (by omega))
    have h3 := h (s + l) (by omega) (by omega)
    constructor
    · rw [show s + (l + 1) = s + l + 1 from rfl, rl_succ, h1, h3, if_neg (by simp), List.append_nil]
    · rw [show s + (l + 1) = s + l + 1 from rfl, bk_succ, h3, h2]
      rfl
theorem rl_end {s l : Nat} (h2 : bk r (s + l) = l) (hl : 0 < l) (h3 : r (s + l) = false) : rl r (s + l + 1) = rl r (s + l) ++ [(s, l)] ∧ bk r (s + l + 1) = 0 := by
  constructor
  · rw [rl_succ, h2, h3, if_pos ⟨hl, rfl⟩, Nat.add_sub_cancel]
  · rw [bk_succ, h3]
    rfl
theorem rl_next {t s l : Nat} (hb : bk r t = 0) (hts : t ≤ s) (h1 : ∀ i, t ≤ i → i < s → r i = false) (hl : 0 < l) (h2 : ∀ i, s ≤ i → i < s + l → r i = true) (h3 : r (s + l) = false) :
    rl r (s + l + 1) = rl r t ++ [(s, l)] ∧ bk r (s + l + 1) = 0 := by
  obtain ⟨d, rfl⟩ : ∃ d, s = t + d := ⟨s - t, by omega⟩
  obtain ⟨a1, a2⟩ := rl_gap hb d h1
  obtain ⟨b1, b2⟩ := rl_run a2 l h2
  obtain ⟨c1, c2⟩ := rl_end b2 hl h3
  exact ⟨by rw [c1, b1, a1], c2⟩
theorem rl_white {t : Nat} (hb : bk r t = 0) (h : r t = false) : rl r (t + 1) = rl r t ∧ bk r (t + 1) = 0 :=
  rl_gap hb 1 (fun i a b => by obtain rfl : i = t := by omega
                               exact h)
end
theorem rl_congr {r q : Nat → Bool} : ∀ t, (∀ i, i < t → r i = q i) → rl r t = rl q t ∧ bk r t = bk q t
  | 0, _ => ⟨rfl, rfl⟩
  | t + 1, h => by
    obtain ⟨h1, h2⟩ := rl_congr t (fun i hi => h i (by omega))
    have h3 := h t (by omega)
    constructor
    · rw [rl_succ, rl_succ, h1, h2, h3]
    · rw [bk_succ, bk_succ, h2, h3]

/-! ### bits of a word -/
theorem ctz_low32 {x : Nat} (h0 : x ≠ 0) (h : x < 4294967296) : x.testBit (Lib.ctz 32 x) = true ∧ ∀ i, x.testBit i = true → Lib.ctz 32 x ≤ i := by
  unfold Lib.ctz
  rw [if_neg h0]
  obtain ⟨m, hm, hk⟩ := Lib.ctzFrom_spec 32 x (by omega) (by omega)
  obtain ⟨k, hkk⟩ : ∃ k, Lib.ctzFrom 32 x = k := ⟨_, rfl⟩
  rw [hkk] at hm ⊢
  rw [hm, Nat.mul_comm]
  refine ⟨by rw [Nat.testBit_mul_two_pow]; simp [Nat.testBit_zero], fun i hi => ?_⟩
  rw [Nat.testBit_mul_two_pow, Bool.and_eq_true, decide_eq_true_eq] at hi
  exact hi.1
/-- a word without its lowest bits -/
def hiW (W t : Nat) : Nat := (W >>> t) <<< t
theorem hiW_bit (W t j : Nat) : (hiW W t).testBit j = (decide (t ≤ j) && W.testBit j) := by
  unfold hiW
  rw [Nat.testBit_shiftLeft, Nat.testBit_shiftRight]
  by_cases h : t ≤ j
  · rw [show t + (j - t) = j from by omega]
  · simp [h]
theorem hiW_zero (W : Nat) : hiW W 0 = W := by simp [hiW]
theorem hiW_le (W t : Nat) : hiW W t ≤ W := by
  unfold hiW
  rw [Nat.shiftLeft_eq, Nat.shiftRight_eq_div_pow]
  exact Nat.div_mul_le_self _ _
/-- without some bits -/
def lessW (x m : Nat) : Nat := x ^^^ (x &&& m)
theorem lessW_bit (x m j : Nat) : (lessW x m).testBit j = (x.testBit j && !m.testBit j) := by
  unfold lessW
  rw [Nat.testBit_xor, Nat.testBit_and]
  cases x.testBit j <;> cases m.testBit j <;> rfl

structure RunW (W t s l : Nat) : Prop where
  ts : t ≤ s
  l0 : 0 < l
  sl : s + l ≤ 16
  gap : ∀ i, t ≤ i → i < s → W.testBit i = false
  run : ∀ i, s ≤ i → i < s + l → W.testBit i = true
  off : W.testBit (s + l) = false
  rest : lessW (hiW W t) ((2 ^ l - 1) <<< s) = hiW W (s + l + 1)

theorem run_step {W t s l : Nat} (hW : W < 65536) (h0 : hiW W t ≠ 0) (hs : Lib.ctz 32 (hiW W t) = s) (hl : Lib.ctz 32 (4294967295 - hiW W t >>> s) = l) : RunW W t s l := by
  have hle := hiW_le W t
  obtain ⟨s1, s2⟩ := ctz_low32 h0 (by omega)
  rw [hs] at s1 s2
  rw [hiW_bit, Bool.and_eq_true, decide_eq_true_eq] at s1
  have hA : hiW W t >>> s < 65536 := by
    rw [Nat.shiftRight_eq_div_pow]
    exact Nat.lt_of_le_of_lt (Nat.div_le_self _ _) (by omega)
  have bA : ∀ j, (hiW W t >>> s).testBit j = W.testBit (s + j) := fun j => by
    rw [Nat.testBit_shiftRight, hiW_bit]
    simp [show t ≤ s + j from by omega]
  obtain ⟨A, hAe⟩ : ∃ A, hiW W t >>> s = A := ⟨_, rfl⟩
  rw [hAe] at hA bA hl
  have bB : ∀ j, (4294967295 - A).testBit j = (decide (j < 32) && !A.testBit j) := fun j => by
    have := Nat.testBit_two_pow_sub_succ (x := A) (n := 32) (by omega) j
    rwa [show 2 ^ 32 - (A + 1) = 4294967295 - A from by omega] at this
  obtain ⟨l1, l2⟩ := ctz_low32 (x := 4294967295 - A) (by omega) (by omega)
  rw [hl] at l1 l2
  rw [bB, Bool.and_eq_true, decide_eq_true_eq] at l1
  have big : ∀ i, 16 ≤ i → W.testBit i = false := fun i hi => Nat.testBit_lt_two_pow (Nat.lt_of_lt_of_le hW (by
    have : 2 ^ 16 ≤ 2 ^ i := Nat.pow_le_pow_right (by omega) hi
    omega))
  have run : ∀ i, s ≤ i → i < s + l → W.testBit i = true := fun i hi hj => by
    cases e : W.testBit i with
    | true => rfl
    | false =>
      have h1 := l2 (i - s) (by
        rw [bB, bA, show s + (i - s) = i from by omega, e]
        have : i - s < 32 := by omega
        simp [this])
      omega
  have off : W.testBit (s + l) = false := by
    have := l1.2
    rw [bA] at this
    simpa using this
  have l0 : 0 < l := by
    apply Nat.pos_of_ne_zero
    intro e
    rw [e, Nat.add_zero, s1.2] at off
    cases off
  have gap : ∀ i, t ≤ i → i < s → W.testBit i = false := fun i hi hj => by
    cases e : W.testBit i with
    | false => rfl
    | true =>
      have := s2 i (by rw [hiW_bit, e]; simp [hi])
      omega
  have sl : s + l ≤ 16 := by
    apply Nat.le_of_not_lt
    intro h
    have h1 := run (s + l - 1) (by omega) (by omega)
    rw [big _ (by omega)] at h1
    cases h1
  refine ⟨s1.1, l0, sl, gap, run, off, ?_⟩
  apply Nat.eq_of_testBit_eq
  intro j
  have bM : ((2 ^ l - 1) <<< s).testBit j = (decide (s ≤ j) && decide (j - s < l)) := by
    rw [Nat.testBit_shiftLeft, Nat.testBit_two_pow_sub_one]
  rw [lessW_bit, hiW_bit, hiW_bit, bM]
  by_cases h1 : j < s
  · by_cases h2 : t ≤ j
    · rw [gap j h2 h1]; simp
    · have : ¬ s + l + 1 ≤ j := by omega
      simp [h2, this]
  · by_cases h2 : j < s + l
    · have a1 : s ≤ j := by omega
      have a2 : j - s < l := by omega
      have a3 : ¬ s + l + 1 ≤ j := by omega
      simp [a1, a2, a3]
    · by_cases h3 : j = s + l
      · subst h3
        rw [off]
        simp
      · have a1 : ¬ j - s < l := by omega
        have a2 : s + l + 1 ≤ j := by omega
        have a3 : t ≤ j := by omega
        simp [a1, a2, a3]
/-- no bits are left -/
theorem run_none {W t : Nat} (h0 : hiW W t = 0) : ∀ i, t ≤ i → W.testBit i = false := fun i hi => by
  have h := hiW_bit W t i
  rw [h0] at h
  simp [hi] at h
  exact h
end Go.Proofs.YtnmnlbgialolhaaDoor
