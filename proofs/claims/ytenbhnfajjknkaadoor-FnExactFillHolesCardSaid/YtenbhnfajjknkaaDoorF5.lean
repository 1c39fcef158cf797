/- Contracts of single functions, and plain lemmas, on which the exact laws of this seat rest; each holds under the conditions that it states. -/
import Derived.Test.YtenbhnfajjknkaaDoorPb
import Derived.RegionTactic
import Derived.ChangeAlike
import Derived.BigRegion
import Derived.Test.YtenbhnfajjknkaaDoorW2
import Derived.Test.YtenbhnfajjknkaaDoorRl
import Derived.Lib.BitFns
import Derived.Lib.TrailingZeros
import Derived.Deep.RegionWith
import Derived.Test.YtenbhnfajjknkaaDoorW4
import Derived.Test.YtenbhnfajjknkaaDoorSp
import Derived.Test.YtenbhnfajjknkaaDoorLk
import Derived.Test.YtenbhnfajjknkaaDoorLt
namespace Go.Proofs.YtenbhnfajjknkaaDoor
set_option linter.unusedVariables false
open Go.RowKit

/-! ### set: a bit of a word -/
def clrW (W p : Nat) : Nat := W &&& (4294967295 - 2 ^ p)
def updW (W p : Nat) (bk : Bool) : Nat := if bk then clrW W p ||| 2 ^ p else clrW W p
theorem shl_mod (p : Nat) (hp : p < 16) : ((2 : Int) ^ p % 4294967296) = ((2 ^ p : Nat) : Int) := by
  have h : 2 ^ p ≤ 2 ^ 15 := Nat.pow_le_pow_right (by omega) (by omega)
  have e : ((2 : Int) ^ p) = ((2 ^ p : Nat) : Int) := by push_cast; rfl
  rw [e]
  obtain ⟨K, hK⟩ : ∃ K, 2 ^ p = K := ⟨_, rfl⟩
  rw [hK] at h ⊢
  omega
theorem clr_bits (W p : Nat) (hW : W < 4294967296) (hp : p < 16) : bits .andNot .u32 (W : Int) ((2 : Int) ^ p % 4294967296) = ((clrW W p : Nat) : Int) := by
  have h : 2 ^ p ≤ 2 ^ 15 := Nat.pow_le_pow_right (by omega) (by omega)
  rw [shl_mod p hp, u32_andNot_nat W (2 ^ p) hW (by omega)]
  rfl
theorem clr_lt (W p : Nat) (hW : W < 4294967296) : clrW W p < 4294967296 := Nat.lt_of_le_of_lt Nat.and_le_left hW
theorem or_bits (W p : Nat) (hW : W < 4294967296) (hp : p < 16) : bits .or .u32 (W : Int) ((2 : Int) ^ p % 4294967296) = ((W ||| 2 ^ p : Nat) : Int) := by
  have h : 2 ^ p ≤ 2 ^ 15 := Nat.pow_le_pow_right (by omega) (by omega)
  rw [shl_mod p hp, u32_or_nat W (2 ^ p) hW (by omega)]
theorem upd_lt (W p : Nat) (bk : Bool) (hW : W < 4294967296) (hp : p < 16) : updW W p bk < 4294967296 := by
  have h : 2 ^ p ≤ 2 ^ 15 := Nat.pow_le_pow_right (by omega) (by omega)
  have h1 := clr_lt W p hW
  unfold updW
  split
  · exact Nat.or_lt_two_pow (n := 32) h1 (by omega)
  · exact h1
theorem clr_bit (W p i : Nat) (hp : p < 16) (hi : i < 16) : (clrW W p).testBit i = (W.testBit i && !decide (i = p)) := by
  unfold clrW
  rw [Nat.testBit_and]
  congr 1
  have e : (4294967295 - 2 ^ p) = 2 ^ 32 - (2 ^ p + 1) := by omega
  have h : 2 ^ p ≤ 2 ^ 15 := Nat.pow_le_pow_right (by omega) (by omega)
  rw [e, Nat.testBit_two_pow_sub_succ (by omega), Nat.testBit_two_pow, decide_eq_true (show i < 32 by omega), Bool.true_and, decide_eq_decide.2 (show p = i ↔ i = p from eq_comm)]
theorem upd_bit (W p i : Nat) (bk : Bool) (hp : p < 16) (hi : i < 16) : (updW W p bk).testBit i = if i = p then bk else W.testBit i := by
  unfold updW
  cases bk with
  | true =>
    simp only [if_true, Nat.testBit_or, clr_bit W p i hp hi, Nat.testBit_two_pow]
    by_cases h : i = p
    · subst h; simp
    · simp [h, show ¬ p = i from fun e => h e.symm]
  | false =>
    simp only [Bool.false_eq_true, if_false, clr_bit W p i hp hi]
    by_cases h : i = p <;> simp [h]

def updG (g : Nat → Nat) (q p : Nat) (bk : Bool) (j : Nat) : Nat := if j = q then updW (g q) p bk else g j

theorem mat_set (a b : Nat) (g : Nat → Nat) (q : Nat) (hq : q < 16) (x : Nat) : (mat a b g).setIfInBounds (2 + q) (.int .u32 x) = mat a b (fun j => if j = q then x else g j) := by
  unfold mat
  rw [mcells_set _ _ _ q hq]
  congr 1
  funext j
  show _ = ((if j = q then x else g j : Nat) : Int)
  split <;> rfl

def Setted (w : World) (mb a b : Nat) (g : Nat → Nat) (q p : Nat) (bk : Bool) (e : Ending) (w' : World) : Prop :=
  e = .returned (.tuple #[]) ∧ w'.heap[mb]? = some (.cells (mat a b (updG g q p bk)) 99 (0, 0)) ∧ Below mb w w'

theorem upd_all {g : Nat → Nat} (hg : ∀ j, g j < 4294967296) (q p : Nat) (bk : Bool) (hp : p < 16) (j : Nat) : updG g q p bk j < 4294967296 := by
  unfold updG
  split
  · exact upd_lt _ p bk (hg q) hp
  · exact hg j

end Go.Proofs.YtenbhnfajjknkaaDoor

/- Contracts of single functions, and plain lemmas, on which the exact laws of this seat rest; each holds under the conditions that it states. -/
namespace Go.Proofs.YtenbhnfajjknkaaDoor
set_option linter.unusedVariables false
set_option linter.unusedSimpArgs false
open Go.RowKit

/-! ### the box around the black pixels -/
structure IsBox (f : Nat → Nat → Bool) (wd h lx ly hx hy : Nat) : Prop where
  all : ∀ y x, y < h → x < wd → f y x = true → lx ≤ x ∧ x ≤ hx ∧ ly ≤ y ∧ y ≤ hy
  l : ∃ y, y < h ∧ lx < wd ∧ f y lx = true
  r : ∃ y, y < h ∧ hx < wd ∧ f y hx = true
  t : ∃ x, x < wd ∧ ly < h ∧ f ly x = true
  b : ∃ x, x < wd ∧ hy < h ∧ f hy x = true
theorem IsBox.unique {f : Nat → Nat → Bool} {wd h a b c d a' b' c' d' : Nat} (H : IsBox f wd h a b c d) (H' : IsBox f wd h a' b' c' d') : a = a' ∧ b = b' ∧ c = c' ∧ d = d' := by
  obtain ⟨y1, p1, q1, r1⟩ := H.l
  obtain ⟨y2, p2, q2, r2⟩ := H'.l
  obtain ⟨y3, p3, q3, r3⟩ := H.r
  obtain ⟨y4, p4, q4, r4⟩ := H'.r
  obtain ⟨x5, p5, q5, r5⟩ := H.t
  obtain ⟨x6, p6, q6, r6⟩ := H'.t
  obtain ⟨x7, p7, q7, r7⟩ := H.b
  obtain ⟨x8, p8, q8, r8⟩ := H'.b
  have a1 := H'.all _ _ p1 q1 r1
  have a2 := H.all _ _ p2 q2 r2
  have a3 := H'.all _ _ p3 q3 r3
  have a4 := H.all _ _ p4 q4 r4
  have a5 := H'.all _ _ q5 p5 r5
  have a6 := H.all _ _ q6 p6 r6
  have a7 := H'.all _ _ q7 p7 r7
  have a8 := H.all _ _ q8 p8 r8
  omega
def noneB (f : Nat → Nat → Bool) (wd h : Nat) : Prop := ∀ y x, y < h → x < wd → f y x = false
/-- what BoxOf says -/
def BoxSays (ss : List ByteArray) (a b c d : Int) (ok : Bool) : Prop :=
  (ok = true ∧ validB ss = true ∧ ∃ lx ly hx hy : Nat, a = lx ∧ b = ly ∧ c = hx ∧ d = hy ∧ IsBox (pixF ss) (row0 ss).size ss.length lx ly hx hy) ∨
  (ok = false ∧ a = 0 ∧ b = 0 ∧ c = 0 ∧ d = 0 ∧ (validB ss = true → noneB (pixF ss) (row0 ss).size ss.length))
theorem BoxSays.unique {ss : List ByteArray} {a b c d a' b' c' d' : Int} {ok ok' : Bool} (H : BoxSays ss a b c d ok) (H' : BoxSays ss a' b' c' d' ok') : a = a' ∧ b = b' ∧ c = c' ∧ d = d' ∧ ok = ok' := by
  rcases H with ⟨rfl, hv, lx, ly, hx, hy, rfl, rfl, rfl, rfl, HB⟩ | ⟨rfl, rfl, rfl, rfl, rfl, hn⟩
  · rcases H' with ⟨rfl, _, lx', ly', hx', hy', rfl, rfl, rfl, rfl, HB'⟩ | ⟨rfl, rfl, rfl, rfl, rfl, hn⟩
    · obtain ⟨rfl, rfl, rfl, rfl⟩ := HB.unique HB'
      exact ⟨rfl, rfl, rfl, rfl, rfl⟩
    · obtain ⟨y1, p1, q1, r1⟩ := HB.l
      rw [hn hv _ _ p1 q1] at r1
      cases r1
  · rcases H' with ⟨rfl, hv, lx', ly', hx', hy', rfl, rfl, rfl, rfl, HB'⟩ | ⟨rfl, rfl, rfl, rfl, rfl, _⟩
    · obtain ⟨y1, p1, q1, r1⟩ := HB'.l
      rw [hn hv _ _ p1 q1] at r1
      cases r1
    · exact ⟨rfl, rfl, rfl, rfl, rfl⟩

theorem bit_all {ss : List ByteArray} (V : VP ss) (j x : Nat) : (wordsOf ss j).testBit x = true ↔ j < ss.length ∧ x < (row0 ss).size ∧ pixF ss j x = true := by
  constructor
  · intro h
    have hj : j < ss.length := by
      apply Nat.lt_of_not_le
      intro hle
      unfold wordsOf at h
      rw [if_neg (by omega)] at h
      simp at h
    have hx : x < (row0 ss).size := by
      apply Nat.lt_of_not_le
      intro hle
      have h1 := words_lt_pow V j
      have h2 : 2 ^ (row0 ss).size ≤ 2 ^ x := Nat.pow_le_pow_right (by omega) hle
      rw [Nat.testBit_lt_two_pow (by omega)] at h
      cases h
    exact ⟨hj, hx, by rw [← words_at V j x hj hx]; exact h⟩
  · intro ⟨hj, hx, h⟩
    rw [words_at V j x hj hx]; exact h

/-! ### the words -/
def orW (g : Nat → Nat) : Nat → Nat
  | 0 => 0
  | k + 1 => orW g k ||| g k
def nzW (g : Nat → Nat) : Nat → Nat
  | 0 => 0
  | k + 1 => if g k = 0 then nzW g k else nzW g k ||| 2 ^ k
theorem orW_bit (g : Nat → Nat) (x : Nat) : ∀ k, (orW g k).testBit x = true ↔ ∃ j, j < k ∧ (g j).testBit x = true
  | 0 => by simp [orW]
  | k + 1 => by
    unfold orW
    rw [Nat.testBit_or, Bool.or_eq_true, orW_bit g x k]
    constructor
    · rintro (⟨j, hj, h⟩ | h)
      · exact ⟨j, by omega, h⟩
      · exact ⟨k, by omega, h⟩
    · rintro ⟨j, hj, h⟩
      by_cases e : j = k
      · subst e; exact Or.inr h
      · exact Or.inl ⟨j, by omega, h⟩
theorem nzW_bit (g : Nat → Nat) (y : Nat) : ∀ k, (nzW g k).testBit y = true ↔ y < k ∧ g y ≠ 0
  | 0 => by simp [nzW]
  | k + 1 => by
    unfold nzW
    split
    · rename_i h0
      rw [nzW_bit g y k]
      constructor
      · rintro ⟨h1, h2⟩; exact ⟨by omega, h2⟩
      · rintro ⟨h1, h2⟩
        exact ⟨by
          by_cases e : y = k
          · subst e; exact absurd h0 h2
          · omega, h2⟩
    · rename_i h0
      rw [Nat.testBit_or, Bool.or_eq_true, nzW_bit g y k, Nat.testBit_two_pow]
      constructor
      · rintro (⟨h1, h2⟩ | h)
        · exact ⟨by omega, h2⟩
        · obtain rfl : k = y := by simpa using h
          exact ⟨by omega, h0⟩
      · rintro ⟨h1, h2⟩
        by_cases e : y = k
        · subst e; exact Or.inr (by simp)
        · exact Or.inl ⟨by omega, h2⟩
theorem orW_lt (g : Nat → Nat) (hg : ∀ j, g j < 65536) : ∀ k, orW g k < 65536
  | 0 => by unfold orW; omega
  | k + 1 => by unfold orW; exact Nat.or_lt_two_pow (n := 16) (orW_lt g hg k) (hg k)
theorem nzW_lt (g : Nat → Nat) : ∀ k, k ≤ 16 → nzW g k < 65536
  | 0, _ => by unfold nzW; omega
  | k + 1, h => by
    have h2 : 2 ^ k ≤ 2 ^ 15 := Nat.pow_le_pow_right (by omega) (by omega)
    unfold nzW
    split
    · exact nzW_lt g k (by omega)
    · exact Nat.or_lt_two_pow (n := 16) (nzW_lt g k (by omega)) (by omega)

theorem bitLenAux_spec : ∀ (f x : Nat), 0 < x → x < 2 ^ f → 0 < Lib.bitLenAux f x ∧ x.testBit (Lib.bitLenAux f x - 1) = true ∧ x < 2 ^ Lib.bitLenAux f x
  | 0, x, h0, h => by simp at h; omega
  | f + 1, x, h0, h => by
    unfold Lib.bitLenAux
    rw [if_neg (by omega)]
    by_cases h1 : x = 1
    · subst h1
      have e : Lib.bitLenAux f (1 / 2) = 0 := by
        cases f with
        | zero => rfl
        | succ f => unfold Lib.bitLenAux; rfl
      rw [e]
      exact ⟨by omega, by decide, by decide⟩
    · obtain ⟨p1, p2, p3⟩ := bitLenAux_spec f (x / 2) (by omega) (by rw [Nat.pow_succ] at h; omega)
      obtain ⟨m, hm⟩ : ∃ m, Lib.bitLenAux f (x / 2) = m + 1 := ⟨Lib.bitLenAux f (x / 2) - 1, by omega⟩
      rw [hm] at p2 p3 ⊢
      refine ⟨by omega, ?_, ?_⟩
      · rw [show 1 + (m + 1) - 1 = m + 1 from by omega, Nat.testBit_succ]
        simpa using p2
      · rw [show 1 + (m + 1) = (m + 1) + 1 from by omega, Nat.pow_succ]; omega
/-- the greatest bit -/
theorem len_top {x : Nat} (h0 : x ≠ 0) (h : x < 65536) : 0 < Lib.bitLen x ∧ Lib.bitLen x ≤ 16 ∧ x.testBit (Lib.bitLen x - 1) = true ∧ ∀ i, x.testBit i = true → i ≤ Lib.bitLen x - 1 := by
  obtain ⟨p1, p2, p3⟩ := bitLenAux_spec 64 x (by omega) (Nat.lt_trans h (by decide))
  have hb : ∀ i, x.testBit i = true → i ≤ Lib.bitLen x - 1 := fun i hi => by
    apply Nat.le_of_not_lt
    intro hlt
    have h2 : 2 ^ Lib.bitLen x ≤ 2 ^ i := Nat.pow_le_pow_right (by omega) (by unfold Lib.bitLen at hlt ⊢; omega)
    rw [Nat.testBit_lt_two_pow (by unfold Lib.bitLen at h2; omega)] at hi
    cases hi
  refine ⟨p1, ?_, p2, hb⟩
  apply Nat.le_of_not_lt
  intro hlt
  have h2 : 2 ^ 16 ≤ 2 ^ (Lib.bitLen x - 1) := Nat.pow_le_pow_right (by omega) (by omega)
  have := Nat.testBit_lt_two_pow (x := x) (i := Lib.bitLen x - 1) (by omega)
  unfold Lib.bitLen at this
  rw [p2] at this
  cases this
/-- the least bit -/
theorem ctz_low {x : Nat} (h0 : x ≠ 0) (h : x < 65536) : x.testBit (Lib.ctz 32 x) = true ∧ ∀ i, x.testBit i = true → Lib.ctz 32 x ≤ i := by
  unfold Lib.ctz
  rw [if_neg h0]
  obtain ⟨m, hm, hk⟩ := Lib.ctzFrom_spec 32 x (by omega) (by omega)
  obtain ⟨k, hkk⟩ : ∃ k, Lib.ctzFrom 32 x = k := ⟨_, rfl⟩
  rw [hkk] at hm ⊢
  rw [hm, Nat.mul_comm]
  refine ⟨by rw [Nat.testBit_mul_two_pow]; simp [Nat.testBit_zero], fun i hi => ?_⟩
  rw [Nat.testBit_mul_two_pow, Bool.and_eq_true, decide_eq_true_eq] at hi
  exact hi.1

/-- the box out of the words -/
theorem box_words {ss : List ByteArray} (V : VP ss) (h0 : orW (wordsOf ss) 16 ≠ 0) (hg : ∀ j, wordsOf ss j < 65536) :
    nzW (wordsOf ss) 16 ≠ 0 ∧ IsBox (pixF ss) (row0 ss).size ss.length (Lib.ctz 32 (orW (wordsOf ss) 16)) (Lib.ctz 32 (nzW (wordsOf ss) 16)) (Lib.bitLen (orW (wordsOf ss) 16) - 1) (Lib.bitLen (nzW (wordsOf ss) 16) - 1) := by
  have hn16 := V.n16
  have l1 := orW_lt _ hg 16
  have l2 := nzW_lt (wordsOf ss) 16 (by omega)
  obtain ⟨c1, c2⟩ := ctz_low h0 l1
  obtain ⟨d0, _, d1, d2⟩ := len_top h0 l1
  have hz : nzW (wordsOf ss) 16 ≠ 0 := by
    obtain ⟨j, hj, hb⟩ := (orW_bit _ _ 16).1 c1
    intro e
    have : (nzW (wordsOf ss) 16).testBit j = true := (nzW_bit _ _ 16).2 ⟨hj, fun e2 => by rw [e2] at hb; simp at hb⟩
    rw [e] at this
    simp at this
  obtain ⟨e1, e2⟩ := ctz_low hz l2
  obtain ⟨f0, _, f1, f2⟩ := len_top hz l2
  have col : ∀ x, (orW (wordsOf ss) 16).testBit x = true → ∃ y, y < ss.length ∧ x < (row0 ss).size ∧ pixF ss y x = true := fun x hx => by
    obtain ⟨j, hj, hb⟩ := (orW_bit _ _ 16).1 hx
    obtain ⟨p1, p2, p3⟩ := (bit_all V j x).1 hb
    exact ⟨j, p1, p2, p3⟩
  have row : ∀ y, (nzW (wordsOf ss) 16).testBit y = true → ∃ x, x < (row0 ss).size ∧ y < ss.length ∧ pixF ss y x = true := fun y hy => by
    obtain ⟨hj, hb⟩ := (nzW_bit _ _ 16).1 hy
    obtain ⟨x, hx⟩ := Nat.exists_testBit_of_ne_zero hb
    obtain ⟨p1, p2, p3⟩ := (bit_all V y x).1 hx
    exact ⟨x, p2, p1, p3⟩
  refine ⟨hz, ⟨fun y x hy hx hp => ?_, col _ c1, col _ d1, row _ e1, row _ f1⟩⟩
  have hb := (bit_all V y x).2 ⟨hy, hx, hp⟩
  have h1 := (orW_bit (wordsOf ss) x 16).2 ⟨y, by omega, hb⟩
  have h2 := (nzW_bit (wordsOf ss) y 16).2 ⟨by omega, fun e => by rw [e] at hb; simp at hb⟩
  exact ⟨c2 _ h1, d2 _ h1, e2 _ h2, f2 _ h2⟩
theorem none_words {ss : List ByteArray} (V : VP ss) (h0 : orW (wordsOf ss) 16 = 0) : noneB (pixF ss) (row0 ss).size ss.length := fun y x hy hx => by
  cases hp : pixF ss y x with
  | false => rfl
  | true =>
    have hn16 := V.n16
    have hb := (bit_all V y x).2 ⟨hy, hx, hp⟩
    have h1 := (orW_bit (wordsOf ss) x 16).2 ⟨y, by omega, hb⟩
    rw [h0] at h1
    simp at h1

/-! ### the spots -/
/-- the least and greatest of the first i spots -/
structure MM (xs : List (Int × Int)) (i : Nat) (a b c d : Int) : Prop where
  all : ∀ j, j < i → a ≤ (xs.getD j (0, 0)).1 ∧ b ≤ (xs.getD j (0, 0)).2 ∧ (xs.getD j (0, 0)).1 ≤ c ∧ (xs.getD j (0, 0)).2 ≤ d
  l : ∃ j, j < i ∧ (xs.getD j (0, 0)).1 = a
  t : ∃ j, j < i ∧ (xs.getD j (0, 0)).2 = b
  r : ∃ j, j < i ∧ (xs.getD j (0, 0)).1 = c
  b : ∃ j, j < i ∧ (xs.getD j (0, 0)).2 = d
theorem MM.one (xs : List (Int × Int)) : MM xs 1 (xs.getD 0 (0, 0)).1 (xs.getD 0 (0, 0)).2 (xs.getD 0 (0, 0)).1 (xs.getD 0 (0, 0)).2 := by
  refine ⟨fun j hj => ?_, ⟨0, by omega, rfl⟩, ⟨0, by omega, rfl⟩, ⟨0, by omega, rfl⟩, ⟨0, by omega, rfl⟩⟩
  obtain rfl : j = 0 := by omega
  omega
theorem MM.step {xs : List (Int × Int)} {i : Nat} {a b c d x y : Int} (H : MM xs i a b c d) (hx : xs.getD i (0, 0) = (x, y)) : MM xs (i + 1) (min a x) (min b y) (max c x) (max d y) := by
  refine ⟨fun j hj => ?_, ?_, ?_, ?_, ?_⟩
  · by_cases e : j = i
    · subst e; rw [hx]; simp only; omega
    · have := H.all j (by omega); omega
  · by_cases h : a ≤ x
    · obtain ⟨j, hj, e⟩ := H.l; exact ⟨j, by omega, by omega⟩
    · exact ⟨i, by omega, by rw [hx]; simp only; omega⟩
  · by_cases h : b ≤ y
    · obtain ⟨j, hj, e⟩ := H.t; exact ⟨j, by omega, by omega⟩
    · exact ⟨i, by omega, by rw [hx]; simp only; omega⟩
  · by_cases h : x ≤ c
    · obtain ⟨j, hj, e⟩ := H.r; exact ⟨j, by omega, by omega⟩
    · exact ⟨i, by omega, by rw [hx]; simp only; omega⟩
  · by_cases h : y ≤ d
    · obtain ⟨j, hj, e⟩ := H.b; exact ⟨j, by omega, by omega⟩
    · exact ⟨i, by omega, by rw [hx]; simp only; omega⟩

theorem spL_mem (f : Nat → Nat → Bool) (wd N : Nat) (p : Int × Int) : p ∈ spL f wd N ↔ ∃ i, i < N ∧ f (i / wd) (i % wd) = true ∧ p = (((i % wd : Nat) : Int), ((i / wd : Nat) : Int)) := by
  unfold spL
  rw [List.mem_filterMap]
  constructor
  · rintro ⟨i, hi, h⟩
    rw [List.mem_range] at hi
    cases hf : f (i / wd) (i % wd) with
    | false => rw [hf] at h; cases h
    | true => rw [hf] at h; exact ⟨i, hi, hf, (Option.some.inj h).symm⟩
  · rintro ⟨i, hi, hf, rfl⟩
    exact ⟨i, List.mem_range.2 hi, by rw [hf]; rfl⟩
theorem getD_mem {xs : List (Int × Int)} {j : Nat} (h : j < xs.length) : xs.getD j (0, 0) ∈ xs := by
  rw [List.getD_eq_getElem?_getD, List.getElem?_eq_getElem h]; exact List.getElem_mem h
/-- the box out of the spots -/
theorem box_spots {f : Nat → Nat → Bool} {wd h : Nat} (hw : 0 < wd) {a b c d : Int} (H : MM (spL f wd (wd * h)) (spL f wd (wd * h)).length a b c d) : ∃ lx ly hx hy : Nat, a = lx ∧ b = ly ∧ c = hx ∧ d = hy ∧ IsBox f wd h lx ly hx hy := by
  have at' : ∀ j, j < (spL f wd (wd * h)).length → ∃ y x : Nat, y < h ∧ x < wd ∧ f y x = true ∧ (spL f wd (wd * h)).getD j (0, 0) = ((x : Int), (y : Int)) := fun j hj => by
    obtain ⟨i, hi, hf, e⟩ := (spL_mem f wd (wd * h) _).1 (getD_mem hj)
    exact ⟨i / wd, i % wd, Nat.div_lt_of_lt_mul hi, Nat.mod_lt _ hw, hf, e⟩
  have all' : ∀ y x, y < h → x < wd → f y x = true → ∃ j, j < (spL f wd (wd * h)).length ∧ (spL f wd (wd * h)).getD j (0, 0) = ((x : Int), (y : Int)) := fun y x hy hx hp => by
    have h1 : (y * wd + x) / wd = y := by rw [Nat.mul_comm, Nat.mul_add_div (by omega), Nat.div_eq_of_lt hx, Nat.add_zero]
    have h2 : (y * wd + x) % wd = x := by rw [Nat.mul_comm, Nat.mul_add_mod, Nat.mod_eq_of_lt hx]
    have h3 : (y + 1) * wd ≤ h * wd := Nat.mul_le_mul_right _ hy
    rw [Nat.add_mul, Nat.one_mul, Nat.mul_comm h wd] at h3
    have hm : ((x : Int), (y : Int)) ∈ spL f wd (wd * h) := (spL_mem f wd (wd * h) _).2 ⟨y * wd + x, by omega, by rw [h1, h2]; exact hp, by rw [h1, h2]⟩
    obtain ⟨j, hj, e⟩ := List.getElem_of_mem hm
    exact ⟨j, hj, by rw [List.getD_eq_getElem?_getD, List.getElem?_eq_getElem hj]; exact e⟩
  obtain ⟨j1, p1, q1⟩ := H.l
  obtain ⟨j2, p2, q2⟩ := H.t
  obtain ⟨j3, p3, q3⟩ := H.r
  obtain ⟨j4, p4, q4⟩ := H.b
  obtain ⟨y1, x1, u1, v1, r1, s1⟩ := at' j1 p1
  obtain ⟨y2, x2, u2, v2, r2, s2⟩ := at' j2 p2
  obtain ⟨y3, x3, u3, v3, r3, s3⟩ := at' j3 p3
  obtain ⟨y4, x4, u4, v4, r4, s4⟩ := at' j4 p4
  rw [s1] at q1
  rw [s2] at q2
  rw [s3] at q3
  rw [s4] at q4
  simp only at q1 q2 q3 q4
  refine ⟨x1, y2, x3, y4, q1.symm, q2.symm, q3.symm, q4.symm, ⟨fun y x hy hx hp => ?_, ⟨y1, u1, v1, r1⟩, ⟨y3, u3, v3, r3⟩, ⟨x2, v2, u2, r2⟩, ⟨x4, v4, u4, r4⟩⟩⟩
  obtain ⟨j, hj, e⟩ := all' y x hy hx hp
  have := H.all j hj
  rw [e] at this
  simp only at this
  omega
theorem none_spots {f : Nat → Nat → Bool} {wd h : Nat} (hw : 0 < wd) (H : (spL f wd (wd * h)).length = 0) : noneB f wd h := fun y x hy hx => by
  cases hp : f y x with
  | false => rfl
  | true =>
    have h1 : (y * wd + x) / wd = y := by rw [Nat.mul_comm, Nat.mul_add_div (by omega), Nat.div_eq_of_lt hx, Nat.add_zero]
    have h2 : (y * wd + x) % wd = x := by rw [Nat.mul_comm, Nat.mul_add_mod, Nat.mod_eq_of_lt hx]
    have h3 : (y + 1) * wd ≤ h * wd := Nat.mul_le_mul_right _ hy
    rw [Nat.add_mul, Nat.one_mul, Nat.mul_comm h wd] at h3
    have hm : ((x : Int), (y : Int)) ∈ spL f wd (wd * h) := (spL_mem f wd (wd * h) _).2 ⟨y * wd + x, by omega, by rw [h1, h2]; exact hp, by rw [h1, h2]⟩
    rw [List.eq_nil_of_length_eq_zero H] at hm
    cases hm
end Go.Proofs.YtenbhnfajjknkaaDoor

/- Contracts of single functions, and plain lemmas, on which the exact laws of this seat rest; each holds under the conditions that it states. -/
namespace Go.Proofs.YtenbhnfajjknkaaDoor
set_option linter.unusedVariables false
set_option linter.unusedSimpArgs false
open Go.RowKit

/-! ### a picture that is made of a function -/
theorem rowOf_size (f : Nat → Bool) (n : Nat) : (rowOf f n).size = n := by simp [rowOf, ByteArray.size, mkRow]
theorem rowOf_get (f : Nat → Bool) (n x : Nat) (h : x < (rowOf f n).size) : (rowOf f n)[x]'h = if f x = true then 35 else 46 := by
  have hx : x < n := by rwa [rowOf_size] at h
  have : (rowOf f n)[x]'h = (mkRow f n)[x]'(by rw [mkRow_len]; exact hx) := by
    simp [rowOf, ByteArray.getElem_eq_getElem_data]
  rw [this]
  simp [mkRow]
theorem mkPic_getD (wd h : Nat) (f : Nat → Nat → Bool) {y : Nat} (hy : y < h) : (mkPic wd h f).getD y ByteArray.empty = rowOf (f y) wd := by
  simp [mkPic, List.getD, hy]
theorem mkPic_row0 (wd h : Nat) (f : Nat → Nat → Bool) (hh : 1 ≤ h) : (row0 (mkPic wd h f)).size = wd := by
  show ((mkPic wd h f).getD 0 ByteArray.empty).size = wd
  rw [mkPic_getD wd h f (by omega), rowOf_size]
theorem mkPic_pix (wd h : Nat) (f : Nat → Nat → Bool) {y x : Nat} (hy : y < h) (hx : x < wd) : pixF (mkPic wd h f) y x = f y x := by
  unfold pixF
  rw [mkPic_getD wd h f hy, blackAt_eq _ _ (by rw [rowOf_size]; exact hx), rowOf_get]
  cases f y x <;> rfl
theorem mkPic_valid (wd h : Nat) (f : Nat → Nat → Bool) (hw : 1 ≤ wd ∧ wd ≤ 16) (hh : 1 ≤ h ∧ h ≤ 16) : validB (mkPic wd h f) = true := by
  unfold validB
  simp only [Bool.and_eq_true, decide_eq_true_eq, mkPic_len, mkPic_row0 wd h f hh.1]
  refine ⟨⟨⟨⟨hh.1, hh.2⟩, hw.1⟩, hw.2⟩, ?_⟩
  rw [List.all_eq_true]
  intro s hs
  obtain ⟨y, hy, rfl⟩ := List.mem_iff_getElem.1 hs
  rw [mkPic_len] at hy
  have e : (mkPic wd h f)[y] = rowOf (f y) wd := by simp [mkPic]
  rw [e]
  unfold rowB
  simp only [Bool.and_eq_true, decide_eq_true_eq]
  refine ⟨rowOf_size _ _, ?_⟩
  rw [List.all_eq_true]
  intro c hc
  have hc' : c ∈ mkRow (f y) wd := by simpa [rowOf] using hc
  obtain ⟨x, hx, rfl⟩ := List.mem_iff_getElem.1 hc'
  simp only [mkRow, List.getElem_map, List.getElem_range]
  cases f y x <;> decide
end Go.Proofs.YtenbhnfajjknkaaDoor

/- Contracts of single functions, and plain lemmas, on which the exact laws of this seat rest; each holds under the conditions that it states. -/
namespace Go.Proofs.YtenbhnfajjknkaaDoor
set_option linter.unusedVariables false
set_option linter.unusedSimpArgs false
open Go.RowKit

theorem pixI_inW (ss : List ByteArray) (x y : Int) (h : pixI ss x y = true) : (0 ≤ x ∧ x < ((row0 ss).size : Nat)) ∧ (0 ≤ y ∧ y < (ss.length : Nat)) := by
  unfold pixI insB inB at h
  simp at h
  omega
/-- what a search over a valid picture says -/
theorem reach_pic (pb po : Nat) (ss : List ByteArray) (e8 : Bool) (sv : Value) (xs : List (Int × Int)) (w : World) (hp : PicAt w pb po ss) (hxs : xs.length ≤ 256) (hs : SlS w sv xs) :
    Calls Tryd.prog 72 #[.pointer (some ⟨pb, po, none⟩), sv, .bool e8] w (ReachPic (pixI ss) (stepL e8) xs (row0 ss).size ss.length w) := by
  have V := vp_of hp.ok
  exact l03Reach_any pb po _ _ _ e8 sv xs w ⟨V.w1, V.w16⟩ ⟨V.n1, V.n16⟩ (fun x y h => pixI_inW ss x y h) hxs hs
    (fun W hb => l01Width_any pb po ss W (hp.below hb)) (fun W hb => l01Height_any pb po ss W (hp.below hb)) (fun X Y W hb => l01Black_any pb po ss X Y W (hp.below hb))

end Go.Proofs.YtenbhnfajjknkaaDoor

/- Contracts of single functions, and plain lemmas, on which the exact laws of this seat rest; each holds under the conditions that it states. -/
namespace Go.Proofs.YtenbhnfajjknkaaDoor
set_option linter.unusedVariables false
set_option linter.unusedSimpArgs false
open Go.RowKit
attribute [local go_sem] Oper.semAt_some

/-! ### what is reached of a mask -/
noncomputable def rchF (p : Int → Int → Bool) (S xs : List (Int × Int)) (y x : Nat) : Bool := @decide (Reach p S xs ((x : Int), (y : Int))) (Classical.propDecidable _)
theorem rchF_iff (p : Int → Int → Bool) (S xs : List (Int × Int)) (y x : Nat) : rchF p S xs y x = true ↔ Reach p S xs ((x : Int), (y : Int)) := by
  unfold rchF
  exact @decide_eq_true_iff _ (Classical.propDecidable _)
theorem rchF_eq {p : Int → Int → Bool} {S xs : List (Int × Int)} {y x : Nat} {c : Bool} (h : c = true ↔ Reach p S xs ((x : Int), (y : Int))) : c = rchF p S xs y x := by
  rw [Bool.eq_iff_iff, rchF_iff]
  exact h
def spW (ss : List ByteArray) : List (Int × Int) := spL (pixF ss) (row0 ss).size ((row0 ss).size * ss.length)
noncomputable def rcF (ss tt : List ByteArray) (e8 : Bool) : Nat → Nat → Bool := rchF (pixI tt) (stepL e8) (spW ss)
noncomputable def rcP (ss tt : List ByteArray) (e8 : Bool) : List ByteArray := if likeB ss tt then mkPic (row0 tt).size tt.length (rcF ss tt e8) else []
theorem rcP_no {ss tt : List ByteArray} {e8 : Bool} (h : likeB ss tt = false) : rcP ss tt e8 = [] := by unfold rcP; rw [h]; rfl
theorem rcP_yes {ss tt : List ByteArray} {e8 : Bool} (h : likeB ss tt = true) : rcP ss tt e8 = mkPic (row0 tt).size tt.length (rcF ss tt e8) := by unfold rcP; rw [h]; rfl
theorem pixI_nat {ss : List ByteArray} (x y : Nat) : pixI ss (x : Int) (y : Int) = (decide (x < (row0 ss).size) && decide (y < ss.length) && pixF ss y x) := by
  unfold pixI pixF insB inB
  simp only [Int.toNat_natCast]
  congr 1
  rw [Bool.eq_iff_iff]
  simp
  omega
theorem spW_mem {ss : List ByteArray} (V : VP ss) (q : Int × Int) : q ∈ spW ss ↔ pixI ss q.1 q.2 = true := by
  unfold spW
  rw [spL_mem]
  have hw := V.w1
  constructor
  · rintro ⟨i, hi, hf, rfl⟩
    show pixI ss ((i % (row0 ss).size : Nat) : Int) ((i / (row0 ss).size : Nat) : Int) = true
    have h1 : i % (row0 ss).size < (row0 ss).size := Nat.mod_lt _ hw
    have h2 : i / (row0 ss).size < ss.length := Nat.div_lt_of_lt_mul hi
    rw [pixI_nat, decide_eq_true h1, decide_eq_true h2, hf]
    rfl
  · intro h
    have hin := pixI_inW ss q.1 q.2 h
    obtain ⟨x, hx⟩ : ∃ x : Nat, q.1 = x := ⟨q.1.toNat, by omega⟩
    obtain ⟨y, hy⟩ : ∃ y : Nat, q.2 = y := ⟨q.2.toNat, by omega⟩
    have hx2 : x < (row0 ss).size := by omega
    have hy2 : y < ss.length := by omega
    rw [hx, hy, pixI_nat, decide_eq_true hx2, decide_eq_true hy2] at h
    have h3 : pixF ss y x = true := by simpa using h
    have e1 : (y * (row0 ss).size + x) / (row0 ss).size = y := by
      rw [Nat.mul_comm, Nat.mul_add_div (by omega), Nat.div_eq_of_lt hx2, Nat.add_zero]
    have e2 : (y * (row0 ss).size + x) % (row0 ss).size = x := by
      rw [Nat.mul_comm, Nat.mul_add_mod, Nat.mod_eq_of_lt hx2]
    refine ⟨y * (row0 ss).size + x, ?_, by rw [e1, e2]; exact h3, ?_⟩
    · have : (y + 1) * (row0 ss).size ≤ ss.length * (row0 ss).size := Nat.mul_le_mul hy2 (Nat.le_refl _)
      rw [Nat.add_mul, Nat.one_mul] at this
      rw [Nat.mul_comm (row0 ss).size]
      omega
    · rw [e1, e2]
      exact Prod.ext hx hy
theorem spW_len {ss : List ByteArray} (V : VP ss) : (spW ss).length ≤ 256 := by
  have h := spL_len (pixF ss) (row0 ss).size ((row0 ss).size * ss.length)
  have h2 : (row0 ss).size * ss.length ≤ 16 * 16 := Nat.mul_le_mul V.w16 V.n16
  unfold spW
  omega
theorem like_parts {ss tt : List ByteArray} (h : likeB ss tt = true) : validB ss = true ∧ validB tt = true ∧ (row0 ss).size = (row0 tt).size ∧ ss.length = tt.length := by
  unfold likeB at h
  simp only [Bool.and_eq_true, decide_eq_true_eq] at h
  exact ⟨h.1.1.1, h.1.1.2, h.1.2, h.2⟩

set_option maxHeartbeats 4000000 in
set_option maxRecDepth 100000 in
theorem spec_Rec (u v : Value) (ss tt : List ByteArray) (e8 : Bool) (w : World) (hL : ss.length ≤ maxLen) (hz : ∀ s ∈ ss, s.size ≤ maxLen) (hu : Sl w u ss) (hL2 : tt.length ≤ maxLen) (hz2 : ∀ s ∈ tt, s.size ≤ maxLen) (hv : Sl w v tt) :
    Calls Tryd.prog 35 #[.agg #[u], .agg #[v], .bool e8] w (SaysPic (rcP ss tt e8) (likeB ss tt) w) := by
  obtain ⟨W0, hW0⟩ : ∃ W0, ((w.alloc (.cells #[u] 30)).alloc (.cells #[v] 30)).alloc (.cells #[.slice none 0 0] 30) = W0 := ⟨_, rfl⟩
  have hs0 : W0.heap.size = w.heap.size + 1 + 1 + 1 := by rw [← hW0]; simp
  have hb0 : Below w.heap.size w W0 := by rw [← hW0]; exact Joins.below_alloc3 _ _ _ _
  have p0 : W0.heap[w.heap.size]? = some (.cells #[u] 30 (0, 0)) := by
    rw [← hW0, Below.heap_alloc _ _ _ (by first | (simp; done) | (simp; omega)), Below.heap_alloc _ _ _ (by first | (simp; done) | (simp; omega))]; exact heap_alloc_last w _
  have p1 : W0.heap[w.heap.size + 1]? = some (.cells #[v] 30 (0, 0)) := by
    rw [← hW0, Below.heap_alloc _ _ _ (by first | (simp; done) | (simp; omega))]
    exact heap_alloc2_new _ _ _
  have p2 : W0.heap[w.heap.size + 1 + 1]? = some (.cells #[.slice none 0 0] 30 (0, 0)) := by
    rw [← hW0]
    have := heap_alloc_last ((w.alloc (.cells #[u] 30)).alloc (.cells #[v] 30)) (.cells #[.slice none 0 0] 30)
    simpa only [World.size_alloc] using this
  have HW := Lib.hid hW0
  have HB0 := Lib.hid hb0
  have HS0 := Lib.hid hs0
  have KR : Hid (∀ W, Below W0.heap.size W0 W → W.heap[w.heap.size + 1 + 1]? = some (.cells #[.slice none 0 0] 30 (0, 0))) := fun W hb => (hb.block _ (by omega)).trans p2
  have CL := Lib.hid (l01Like_any w.heap.size (w.heap.size + 1) u v ss tt W0 (cell_of_one p0) (hu.below hb0) hL hz (cell_of_one p1) (hv.below hb0) hL2 hz2)
  cases hlk : likeB ss tt with
  | false =>
    have e1 : Hid (rcP ss tt e8 = []) := rcP_no hlk
    rw [hlk] at CL
    rw [e1.out]
    clear hlk e1 hu hL hz hv hL2 hz2 p0 p1 p2 hW0 hb0 hs0
    go_enter Tryd.func35, Tryd.ntmps35
    go_wp2_with fail
    rw [HW.out]
    refine CL.out.mono ?_
    rintro e w1 ⟨rfl, hb1⟩
    have hp1 := KR.out _ hb1
    have hfr : w1.frozen? ⟨w.heap.size + 1 + 1, 0, none⟩ = false := free_of_one hp1
    have hc2 : w1.cell? ⟨w.heap.size + 1 + 1, 0, none⟩ = some (.slice none 0 0) := cell_of_one hp1
    have B1 : Hid (Below w.heap.size w w1) := HB0.out.trans (hb1.mono HB0.out.size)
    have P1 := Lib.hid hp1
    clear hb1 hp1
    go_wp2_with fail
    refine bodyPost_ret (v := .tuple #[.agg #[.slice none 0 0], .bool false]) (by simp [results, Tryd.results35, go_sem, cell_of_one (one_setCell P1.out)]) rfl ⟨_, _, _, rfl, World.ownsRow_nil _ _ _ _, B1.out.setCell (by show w.heap.size ≤ w.heap.size + 1 + 1; omega) _⟩
  | true =>
    obtain ⟨hva, hvb, _, _⟩ := like_parts hlk
    have V := vp_of hva
    have e1 : Hid (rcP ss tt e8 = mkPic (row0 tt).size tt.length (rcF ss tt e8)) := rcP_yes hlk
    rw [hlk] at CL
    have hpa : ∀ W, Below W0.heap.size W0 W → PicAt W w.heap.size 0 ss := fun W hb => ⟨hva, u, cell_of_one ((hb.block _ (by omega)).trans p0), (hu.below hb0).below hb⟩
    have hpb : ∀ W, Below W0.heap.size W0 W → PicAt W (w.heap.size + 1) 0 tt := fun W hb => ⟨hvb, v, cell_of_one ((hb.block _ (by omega)).trans p1), (hv.below hb0).below hb⟩
    have CS : Hid (∀ W, Below W0.heap.size W0 W → Calls Tryd.prog 73 #[.pointer (some ⟨w.heap.size, 0, none⟩)] W (fun e w' => ∃ v, e = .returned v ∧ (∃ ao n cap, v = .slice ao n cap) ∧ OwnS w' W.heap.size v (spW ss) ∧ Below W.heap.size W w')) := fun W hb => l01Spots_any w.heap.size 0 ss W (hpa W hb)
    have CR : Hid (∀ sv W, Below W0.heap.size W0 W → SlS W sv (spW ss) → Calls Tryd.prog 72 #[.pointer (some ⟨w.heap.size + 1, 0, none⟩), sv, .bool e8] W (TookPic W (mkPic (row0 tt).size tt.length (rcF ss tt e8)))) := fun sv W hb hs =>
      (reach_pic (w.heap.size + 1) 0 tt e8 sv (spW ss) W (hpb W hb) (spW_len V) hs).mono fun e w' ⟨bs, _, hr, ht⟩ => by
        rw [show mkPic (row0 tt).size tt.length (rcF ss tt e8) = mkPic (row0 tt).size tt.length (fun y x => bs.getD (y * (row0 tt).size + x) false) from mkPic_congr fun y hy x hx => (rchF_eq (hr x y hx hy)).symm]
        exact ht
    rw [e1.out]
    obtain ⟨pic, hpic⟩ : ∃ p, mkPic (row0 tt).size tt.length (rcF ss tt e8) = p := ⟨_, rfl⟩
    rw [hpic] at CR ⊢
    obtain ⟨xs, hxs⟩ : ∃ x, spW ss = x := ⟨_, rfl⟩
    rw [hxs] at CR CS
    unfold TookPic at CR
    clear hlk e1 hu hL hz hv hL2 hz2 p0 p1 p2 hW0 hb0 hs0 hpa hpb hva hvb V hpic hxs
    go_enter Tryd.func35, Tryd.ntmps35
    go_wp2_with fail
    rw [HW.out]
    refine CL.out.mono ?_
    rintro e w1 ⟨rfl, hb1⟩
    have HB1 := Lib.hid hb1
    clear hb1
    go_wp2_with fail
    refine (CS.out _ HB1.out).mono ?_
    rintro e w2 ⟨sv, rfl, ⟨ao, n, cap, rfl⟩, hown, hb2⟩
    have HB2 := Lib.hid (HB1.out.trans (hb2.mono HB1.out.size))
    have HSl := Lib.hid (OwnS.sl hown)
    clear hb2 hown
    go_wp2_with fail
    refine (CR.out _ _ HB2.out HSl.out).mono ?_
    rintro e w5 ⟨g4, cap4, rfl, hown4, hb4⟩
    have hb5 := HB2.out.trans (hb4.mono HB2.out.size)
    have hp2 := KR.out _ hb5
    have hfr : w5.frozen? ⟨w.heap.size + 1 + 1, 0, none⟩ = false := free_of_one hp2
    have hc2 : w5.cell? ⟨w.heap.size + 1 + 1, 0, none⟩ = some (.slice none 0 0) := cell_of_one hp2
    have O2 := Lib.hid (own_set (u := .slice (some ⟨g4, 0, none⟩) pic.length cap4) hown4 hp2 (by decide))
    have P5 := Lib.hid hp2
    have B5 := Lib.hid (HB0.out.trans (hb5.mono HB0.out.size))
    have hs4 : w.heap.size ≤ w2.heap.size := Nat.le_trans HB0.out.size HB2.out.size
    clear hown4 hp2 hb4 hb5
    go_wp2_with fail
    refine bodyPost_ret (v := .tuple #[.agg #[.slice (some ⟨g4, 0, none⟩) pic.length cap4], .bool true]) (by simp [results, Tryd.results35, go_sem, cell_of_one (one_setCell P5.out)]) rfl ⟨_, _, _, rfl, Joins.ownsRow_le O2.out hs4, B5.out.setCell (by show w.heap.size ≤ w.heap.size + 1 + 1; omega) _⟩
end Go.Proofs.YtenbhnfajjknkaaDoor
