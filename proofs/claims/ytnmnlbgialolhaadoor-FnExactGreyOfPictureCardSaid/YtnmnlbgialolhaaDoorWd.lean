/- Contracts of single functions, and plain lemmas, on which the exact laws of this seat rest; each holds under the conditions that it states. -/
import Derived.Test.YtnmnlbgialolhaaDoorIs
import Derived.Laws.BitsAllLaws
namespace Go.Proofs.YtnmnlbgialolhaaDoor
set_option linter.unusedVariables false
open Go.RowKit

/-! ### words: bit x is set where f x holds -/
def wordF (f : Nat → Bool) : Nat → Nat
  | 0 => 0
  | k + 1 => wordF f k + if f k then 2 ^ k else 0
theorem wordF_lt (f : Nat → Bool) (k : Nat) : wordF f k < 2 ^ k := by
  induction k with
  | zero => simp [wordF]
  | succ k ih => simp only [wordF, Nat.pow_succ]; split <;> omega
theorem wordF_or (f : Nat → Bool) (k : Nat) (h : f k = true) : wordF f k ||| 2 ^ k = wordF f (k + 1) := by
  have := nat_join k (2 ^ k) (wordF f k) (by simp) (wordF_lt f k)
  rw [Nat.or_comm, this]
  simp [wordF, h]; omega
theorem wordF_bit (f : Nat → Bool) (k i : Nat) : (wordF f k).testBit i = (decide (i < k) && f i) := by
  induction k with
  | zero => simp [wordF]
  | succ k ih =>
    by_cases h : f k = true
    · rw [← wordF_or f k h, Nat.testBit_or, ih, Nat.testBit_two_pow]
      by_cases e : k = i
      · subst e; simp [h]
      · simp [e]
        by_cases h1 : i < k
        · simp [h1, show i < k + 1 from by omega]
        · simp [h1, show ¬ i < k + 1 from by omega]
    · have hf : f k = false := by simpa using h
      simp only [wordF, hf]
      rw [show (if false = true then 2 ^ k else 0) = 0 from rfl, Nat.add_zero, ih]
      by_cases e : i = k
      · subst e; simp [hf]
      · by_cases h1 : i < k
        · simp [h1, show i < k + 1 from by omega]
        · simp [h1, show ¬ i < k + 1 from by omega]

/-- is the byte x of a row black -/
def blackAt (s : ByteArray) (x : Nat) : Bool := s.data.toList.getD x 0 == 35
theorem blackAt_eq (s : ByteArray) (x : Nat) (h : x < s.size) : blackAt s x = (s[x]'h == 35) := by
  unfold blackAt
  have : x < s.data.toList.length := by simpa using h
  rw [List.getD_eq_getElem?_getD, List.getElem?_eq_getElem this]
  rfl
def rowWord (s : ByteArray) : Nat := wordF (blackAt s) s.size

def goodRow (s : ByteArray) : Prop := 1 ≤ s.size ∧ s.size ≤ 16 ∧ ∀ (j : Nat) (hj : j < s.size), pixB (s[j]'hj) = true

theorem b35 {c : UInt8} (h : c.toNat = 35) : c = 35 := UInt8.toNat_inj.1 h
theorem b46 {c : UInt8} (h : c.toNat = 46) : c = 46 := UInt8.toNat_inj.1 h
theorem pix_cases {c : UInt8} (h : pixB c = true) : (c.toNat = 35 ∧ (c == 35) = true) ∨ (c.toNat = 46 ∧ (c == 35) = false) := by
  unfold pixB at h
  rcases Bool.or_eq_true_iff.1 h with h | h
  · exact Or.inl ⟨by rw [beq_iff_eq.1 h]; rfl, h⟩
  · exact Or.inr ⟨by rw [beq_iff_eq.1 h]; rfl, by rw [beq_iff_eq.1 h]; rfl⟩
theorem pix_not {c : UInt8} (h : pixB c = false) : c.toNat ≠ 35 ∧ c.toNat ≠ 46 := by
  constructor
  · intro e; rw [b35 e] at h; exact absurd h (by decide)
  · intro e; rw [b46 e] at h; exact absurd h (by decide)

theorem notEmpty {s : ByteArray} (h1 : 1 ≤ s.size) : s.toList.isEmpty = false := by
  rw [ByteArray.toList_eq]
  have hl : s.data.toList.length = s.size := by simp
  cases h : s.data.toList with
  | nil => rw [h, List.length_nil] at hl; omega
  | cons a l => rfl

theorem iter_below (w : World) (s : ByteArray) (pos : Nat) : Below w.heap.size w (w.iter s pos) := (Below.refl _ _).alloc (Nat.le_refl _) _

theorem orBit (W k : Nat) (hW : W < 2 ^ k) (hk : k ≤ 20) : bits .or .u32 (W : Int) ((2 : Int) ^ k % 4294967296) = ((W ||| 2 ^ k : Nat) : Int) := by
  have h2 : 2 ^ k ≤ 2 ^ 20 := Nat.pow_le_pow_right (by omega) hk
  have e : (2 : Int) ^ k % 4294967296 = ((2 ^ k : Nat) : Int) := by
    have : ((2 ^ k : Nat) : Int) = (2 : Int) ^ k := by simp
    rw [← this]; omega
  rw [e, u32_or_nat W (2 ^ k) (by omega) (by omega)]

set_option maxHeartbeats 1000000 in
set_option maxRecDepth 100000 in
theorem wordOfRow_yes (s : ByteArray) (w : World) (h : goodRow s) :
    Calls Tryd.prog 113 #[.string s] w fun e w' => e = .returned (.tuple #[.int .u32 (rowWord s), .nilIface]) ∧ Below w.heap.size w w' := by
  obtain ⟨h1, h16, hpx⟩ := h
  have HP := Lib.hid hpx
  clear hpx
  go_enter Tryd.func113, Tryd.ntmps113
  go_wp2
  go_loopw [4, 5, 6] (fun wv xv rv wr => ∃ k : Nat, k ≤ s.size ∧ wr = w.iter s k ∧ wv = .int .u32 (wordF (blackAt s) k)) (fun _ _ _ wr => s.size - wr.iterPos w.heap.size)
  case atStart => exact ⟨0, Nat.zero_le _, rfl, rfl⟩
  case round =>
    obtain ⟨k, hk, rfl, rfl⟩ := hrel
    by_cases hlt : k < s.size
    · have hnx : ∀ ty, (Instr.next (.pointer (some ⟨w.heap.size, 0, none⟩)) true ty).run Tryd.prog (w.iter s k) = _ := fun ty => run_next_any w s k ty hlt
      have hb := blackAt_eq s k hlt
      have hor := fun hh => (orBit _ k (wordF_lt (blackAt s) k) (by omega)).trans (congrArg (fun n : Nat => (n : Int)) (wordF_or (blackAt s) k hh))
      have hno : blackAt s k = false → wordF (blackAt s) (k + 1) = wordF (blackAt s) k := fun hh => by simp [wordF, hh]
      obtain ⟨W, hW⟩ : ∃ W, wordF (blackAt s) k = W := ⟨_, rfl⟩
      rw [hW] at hor hno ⊢
      have k16 : ¬ (k = 16) := by omega
      have k0 : (0 : Int) ≤ (k : Int) := by omega
      have k1 : (k : Int) < 16 := by omega
      have HOr := Lib.hid hor
      have HNo := Lib.hid hno
      have HW := Lib.hid hW
      have HB := Lib.hid hb
      clear hor hno hW hb
      rcases pix_cases (HP.out k hlt) with ⟨hc, hq⟩ | ⟨hc, hq⟩
      · rw [decode_ascii s k hlt (by omega), hc] at hnx
        have HQ := Lib.hid hq
        clear hc hq
        go_wp2
        go_roundw
        case rel => exact ⟨k + 1, by omega, rfl, congrArg (Value.int .u32) (HOr.out (by rw [HB.out]; exact HQ.out))⟩
        case measure => simp; omega
      · rw [decode_ascii s k hlt (by omega), hc] at hnx
        have HQ := Lib.hid hq
        clear hc hq
        go_wp2
        go_roundw
        case rel => exact ⟨k + 1, by omega, rfl, by rw [HNo.out (by rw [HB.out]; exact HQ.out)]⟩
        case measure => simp; omega
    · have hnx : ∀ ty, (Instr.next (.pointer (some ⟨w.heap.size, 0, none⟩)) true ty).run Tryd.prog (w.iter s k) = _ := fun ty => run_next_end w s k ty hlt
      have hks : k = s.size := by omega
      have hne : s.toList.isEmpty = false := by
        exact notEmpty h1
      have hW : wordF (blackAt s) k = rowWord s := by rw [hks]; rfl
      rw [hW]
      clear hW hks
      go_wp2
      go_ret2
      exact ⟨rfl, iter_below _ _ _⟩

def BadRow (w : World) (e : Ending) (w' : World) : Prop := ∃ T x, e = .returned (.tuple #[.int .u32 0, .iface T x]) ∧ Below w.heap.size w w'
/-- the error of a row's length lies there -/
def ErrLen (w : World) : Prop := ∃ T x, w.cell? ⟨4, 0, none⟩ = some (.iface T x)
theorem ErrLen.below {w w' : World} (h : ErrLen w) (hb : Below w.heap.size w w') : ErrLen w' := by
  obtain ⟨T, x, h⟩ := h
  exact ⟨T, x, cell_kept hb h⟩

theorem ErrLen.below2 {B : Nat} {w w' : World} (h : ErrLen w) (hb : Below B w w') (hB : w.heap.size ≤ B := by exact Nat.le_refl _) : ErrLen w' := h.below (hb.mono hB)

set_option maxHeartbeats 2000000 in
set_option maxRecDepth 100000 in
theorem wordOfRow_no (s : ByteArray) (w : World) (h : ¬ goodRow s) (he : ErrLen w) :
    Calls Tryd.prog 113 #[.string s] w (BadRow w) := by
  obtain ⟨T, x, hg⟩ := he
  have HG := Lib.hid h
  clear h
  go_enter Tryd.func113, Tryd.ntmps113
  go_wp2
  go_loopw [4, 5, 6] (fun wv xv rv wr => ∃ (k : Nat) (q : Int), k ≤ s.size ∧ k ≤ 16 ∧ wr = w.iter s k ∧ wv = .int .u32 q ∧ Hid (∀ (j : Nat) (hj : j < s.size), j < k → pixB (s[j]'hj) = true)) (fun _ _ _ wr => s.size - wr.iterPos w.heap.size)
  case atStart => exact ⟨0, 0, Nat.zero_le _, Nat.zero_le _, rfl, rfl, fun j _ h => by omega⟩
  case round =>
    obtain ⟨k, q, hk, hk16, rfl, rfl, H⟩ := hrel
    have hgk := cell_kept (iter_below w s k) hg
    by_cases hlt : k < s.size
    · have hnx : ∀ ty, (Instr.next (.pointer (some ⟨w.heap.size, 0, none⟩)) true ty).run Tryd.prog (w.iter s k) = _ := fun ty => run_next_any w s k ty hlt
      by_cases hpx : pixB (s[k]'hlt) = true
      · have H' : Hid (∀ (j : Nat) (hj : j < s.size), j < k + 1 → pixB (s[j]'hj) = true) := fun j hj hjk => by
          by_cases e : j = k
          · subst e; exact hpx
          · exact H.out j hj (by omega)
        have hgk' := cell_kept (iter_below w s (k + 1)) hg
        by_cases k16 : k = 16
        · subst k16
          rcases pix_cases hpx with ⟨hc, hq⟩ | ⟨hc, hq⟩
          all_goals
            rw [decode_ascii s 16 hlt (by omega), hc] at hnx
            clear hc hq hpx
            go_wp2
            go_quiet (fail)
            go_wp2
            go_ret2
            exact ⟨_, _, rfl, (iter_below _ _ _).trans (Joins.below_draws _ _ _)⟩
        · have k0 : (0 : Int) ≤ (k : Int) := by omega
          have k1 : (k : Int) < 16 := by omega
          rcases pix_cases hpx with ⟨hc, hq⟩ | ⟨hc, hq⟩
          all_goals
            rw [decode_ascii s k hlt (by omega), hc] at hnx
            clear hc hq hpx
            go_wp2
            go_roundw
            case rel => exact ⟨k + 1, _, by omega, by omega, rfl, rfl, H'⟩
            case measure => simp; omega
      · have hpf : pixB (s[k]'hlt) = false := by simpa using hpx
        obtain ⟨n35, n46⟩ := pix_not hpf
        obtain ⟨r, d, hd, hr35, hr46⟩ : ∃ (r d : Nat), Utf8.decode s k = (r, d) ∧ r ≠ 35 ∧ r ≠ 46 := by
          by_cases ha : (s[k]'hlt).toNat < 128
          · exact ⟨_, _, decode_ascii s k hlt ha, n35, n46⟩
          · have := (decode_high s k hlt (by omega)).1
            exact ⟨(Utf8.decode s k).1, (Utf8.decode s k).2, rfl, by omega, by omega⟩
        rw [hd] at hnx
        have c1 : ((r : Int) != 35) = true := by rw [bne_iff_ne]; omega
        have c2 : ((r : Int) != 46) = true := by rw [bne_iff_ne]; omega
        clear hd hr35 hr46 n35 n46 hpf hpx
        go_wp2
        go_ret2
        exact ⟨_, _, rfl, (iter_below _ _ _).trans (Joins.below_alloc1 _ _ |>.mono (by simp [World.iter]))⟩
    · have hnx : ∀ ty, (Instr.next (.pointer (some ⟨w.heap.size, 0, none⟩)) true ty).run Tryd.prog (w.iter s k) = _ := fun ty => run_next_end w s k ty hlt
      have hz : s.size = 0 := by
        rcases Nat.eq_zero_or_pos s.size with h | h
        · exact h
        · exact absurd ⟨h, by omega, fun j hj => H.out j hj (by omega)⟩ HG.out
      have hs : s = ByteArray.empty := WideShapes.bytes_inj (show s.data.toList = [] from List.length_eq_zero_iff.1 (by simpa using hz))
      subst hs
      obtain rfl : k = 0 := by omega
      go_wp2
      go_quiet (fail)
      go_wp2
      go_ret2
      exact ⟨_, _, rfl, (iter_below _ _ _).trans (Joins.below_draws _ _ _)⟩
end Go.Proofs.YtnmnlbgialolhaaDoor
