/- Contracts of single functions, and plain lemmas, on which the exact laws of this seat rest; each holds under the conditions that it states. -/
import Derived.Test.YtdeagfmldpociaaIs
import Derived.Laws.BitsAllLaws
namespace Go.Proofs.Ytdeagfmldpociaa
set_option linter.unusedVariables false
open Go.RowKit

/-! ### words: bit x is set where f x holds -/
def wordF (f : Nat → Bool) : Nat → Nat
  | 0 => 0
  | k + 1 => wordF f k + if f k then 2 ^ k else 0
theorem wordF_lt (f : Nat → Bool) (k : Nat) : wordF f k < 2 ^ k := by
  induction k with
  | zero => simp [wordF]
  | succ k ih => simp only [wordF, Nat.pow_succ]; split <;> omega
theorem wordF_or (f : Nat → Bool) (k : Nat) (h : f k = true) : wordF f k ||| 2 ^ k = wordF f (k + 1) := by
  have := nat_join k (2 ^ k) (wordF f k) (by simp) (wordF_lt f k)
  rw [Nat.or_comm, this]
  simp [wordF, h]; omega
theorem wordF_bit (f : Nat → Bool) (k i : Nat) : (wordF f k).testBit i = (decide (i < k) && f i) := by
  induction k with
  | zero => simp [wordF]
  | succ k ih =>
    by_cases h : f k = true
    · rw [← wordF_or f k h, Nat.testBit_or, ih, Nat.testBit_two_pow]
      by_cases e : k = i
      · subst e; simp [h]
      · simp [e]
        by_cases h1 : i < k
        · simp [h1, show i < k + 1 from by omega]
        · simp [h1, show ¬ i < k + 1 from by omega]
    · have hf : f k = false := by simpa using h
      simp only [wordF, hf]
      rw [show (if false = true then 2 ^ k else 0) = 0 from rfl, Nat.add_zero, ih]
      by_cases e : i = k
      · subst e; simp [hf]
      · by_cases h1 : i < k
        · simp [h1, show i < k + 1 from by omega]
        · simp [h1, show ¬ i < k + 1 from by omega]

/-- is the byte x of a row black -/
def blackAt (s : ByteArray) (x : Nat) : Bool := s.data.toList.getD x 0 == 35
theorem blackAt_eq (s : ByteArray) (x : Nat) (h : x < s.size) : blackAt s x = (s[x]'h == 35) := by
  unfold blackAt
  have : x < s.data.toList.length := by simpa using h
  rw [List.getD_eq_getElem?_getD, List.getElem?_eq_getElem this]
  rfl
def rowWord (s : ByteArray) : Nat := wordF (blackAt s) s.size

def goodRow (s : ByteArray) : Prop := 1 ≤ s.size ∧ s.size ≤ 16 ∧ ∀ (j : Nat) (hj : j < s.size), pixB (s[j]'hj) = true

theorem b35 {c : UInt8} (h : c.toNat = 35) : c = 35 := UInt8.toNat_inj.1 h
theorem b46 {c : UInt8} (h : c.toNat = 46) : c = 46 := UInt8.toNat_inj.1 h
theorem pix_cases {c : UInt8} (h : pixB c = true) : (c.toNat = 35 ∧ (c == 35) = true) ∨ (c.toNat = 46 ∧ (c == 35) = false) := by
  unfold pixB at h
  rcases Bool.or_eq_true_iff.1 h with h | h
  · exact Or.inl ⟨by rw [beq_iff_eq.1 h]; rfl, h⟩
  · exact Or.inr ⟨by rw [beq_iff_eq.1 h]; rfl, by rw [beq_iff_eq.1 h]; rfl⟩
theorem pix_not {c : UInt8} (h : pixB c = false) : c.toNat ≠ 35 ∧ c.toNat ≠ 46 := by
  constructor
  · intro e; rw [b35 e] at h; exact absurd h (by decide)
  · intro e; rw [b46 e] at h; exact absurd h (by decide)

theorem notEmpty {s : ByteArray} (h1 : 1 ≤ s.size) : s.toList.isEmpty = false := by
  rw [ByteArray.toList_eq]
  have hl : s.data.toList.length = s.size := by simp
  cases h : s.data.toList with
  | nil => rw [h, List.length_nil] at hl; omega
  | cons a l => rfl

theorem iter_below (w : World) (s : ByteArray) (pos : Nat) : Below w.heap.size w (w.iter s pos) := (Below.refl _ _).alloc (Nat.le_refl _) _

theorem orBit (W k : Nat) (hW : W < 2 ^ k) (hk : k ≤ 20) : bits .or .u32 (W : Int) ((2 : Int) ^ k % 4294967296) = ((W ||| 2 ^ k : Nat) : Int) := by
  have h2 : 2 ^ k ≤ 2 ^ 20 := Nat.pow_le_pow_right (by omega) hk
  have e : (2 : Int) ^ k % 4294967296 = ((2 ^ k : Nat) : Int) := by
    have : ((2 ^ k : Nat) : Int) = (2 : Int) ^ k := by simp
    rw [← this]; omega
  rw [e, u32_or_nat W (2 ^ k) (by omega) (by omega)]

def BadRow (w : World) (e : Ending) (w' : World) : Prop := ∃ T x, e = .returned (.tuple #[.int .u32 0, .iface T x]) ∧ Below w.heap.size w w'
end Go.Proofs.Ytdeagfmldpociaa
