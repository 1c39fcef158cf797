/- Contracts of single functions, and plain lemmas, on which the exact laws of this seat rest; each holds under the conditions that it states. -/
import Derived.Test.YtakaglbbcaplhaaDoorPb
import Derived.BigQuiet
import Derived.Deep.QuietTactic
import Derived.Lib.Tables
import Derived.Lib.BitFns
import Derived.Test.YtakaglbbcaplhaaDoorSc
import Derived.Deep.MidRow
namespace Go.Proofs.YtakaglbbcaplhaaDoor
set_option linter.unusedVariables false
open Go.RowKit

/-- how many of the first k bits are set -/
def bs (W : Nat) : Nat → Nat
  | 0 => 0
  | k + 1 => bs W k + if W.testBit k then 1 else 0
theorem bs_succ (W k : Nat) : bs W (k + 1) = bs W k + if W.testBit k then 1 else 0 := rfl
theorem bs_le (W : Nat) : ∀ k, bs W k ≤ k
  | 0 => Nat.le_refl _
  | k + 1 => by have := bs_le W k; rw [bs_succ]; split <;> omega
theorem bs_mod (W : Nat) : ∀ k, k ≤ 8 → bs (W % 256) k = bs W k
  | 0, _ => rfl
  | k + 1, h => by
    rw [bs_succ, bs_succ, bs_mod W k (by omega)]
    have : (W % 256).testBit k = W.testBit k := by
      rw [show (256 : Nat) = 2 ^ 8 from rfl, Nat.testBit_mod_two_pow, decide_eq_true (by omega : k < 8), Bool.true_and]
    rw [this]
theorem bs_div (W : Nat) : ∀ k, bs W (k + 8) = bs W 8 + bs (W / 256) k
  | 0 => by rw [Nat.zero_add]; rfl
  | k + 1 => by
    rw [show k + 1 + 8 = (k + 8) + 1 from by omega, bs_succ W (k + 8), bs_succ (W / 256) k, bs_div W k]
    have : (W / 256).testBit k = W.testBit (k + 8) := by
      rw [show (256 : Nat) = 2 ^ 8 from rfl, Nat.testBit_div_two_pow]
    rw [this]; omega
theorem bs_split (W : Nat) : bs W 16 = bs (W % 256) 8 + bs (W / 256) 8 := by
  rw [bs_mod W 8 (by omega), ← bs_div W 8]
theorem pop8_bs : ∀ b : Fin 256, Lib.pop8 (b.val : Int) = ((bs b.val 8 : Nat) : Int) := by decide +kernel
theorem pop8_nat (b : Nat) (h : b < 256) : Lib.pop8 (b : Int) = ((bs b 8 : Nat) : Int) := pop8_bs ⟨b, h⟩

theorem foldP : (⟨(([0, 1, 1, 2, 1, 2, 2, 3, 1, 2, 2, 3, 2, 3, 3, 4, 1, 2, 2, 3, 2, 3, 3, 4, 2, 3, 3, 4, 3, 4, 4, 5, 1, 2, 2, 3, 2, 3, 3, 4, 2, 3, 3, 4, 3, 4, 4, 5, 2, 3, 3, 4, 3, 4, 4, 5, 3, 4, 4, 5, 4, 5, 5, 6].append [1, 2, 2, 3, 2, 3, 3, 4, 2, 3, 3, 4, 3, 4, 4, 5, 2, 3, 3, 4, 3, 4, 4, 5, 3, 4, 4, 5, 4, 5, 5, 6, 2, 3, 3, 4, 3, 4, 4, 5, 3, 4, 4, 5, 4, 5, 5, 6, 3, 4, 4, 5, 4, 5, 5, 6, 4, 5, 5, 6, 5, 6, 6, 7]).append ([1, 2, 2, 3, 2, 3, 3, 4, 2, 3, 3, 4, 3, 4, 4, 5, 2, 3, 3, 4, 3, 4, 4, 5, 3, 4, 4, 5, 4, 5, 5, 6, 2, 3, 3, 4, 3, 4, 4, 5, 3, 4, 4, 5, 4, 5, 5, 6, 3, 4, 4, 5, 4, 5, 5, 6, 4, 5, 5, 6, 5, 6, 6, 7].append [2, 3, 3, 4, 3, 4, 4, 5, 3, 4, 4, 5, 4, 5, 5, 6, 3, 4, 4, 5, 4, 5, 5, 6, 4, 5, 5, 6, 5, 6, 6, 7, 3, 4, 4, 5, 4, 5, 5, 6, 4, 5, 5, 6, 5, 6, 6, 7, 4, 5, 5, 6, 5, 6, 6, 7, 5, 6, 6, 7, 6, 7, 7, 8])).toArray⟩ : ByteArray) = Lib.pop8tab := by decide +kernel

end Go.Proofs.YtakaglbbcaplhaaDoor

/- Contracts of single functions, and plain lemmas, on which the exact laws of this seat rest; each holds under the conditions that it states. -/
namespace Go.Proofs.YtakaglbbcaplhaaDoor
set_option linter.unusedVariables false
open Go.RowKit

/-- the black pixels of the first rows -/
def rs (g : Nat → Nat) : Nat → Nat
  | 0 => 0
  | y + 1 => rs g y + bs (g y) 16
theorem rs_succ (g : Nat → Nat) (y : Nat) : rs g (y + 1) = rs g y + bs (g y) 16 := rfl
theorem rs_le (g : Nat → Nat) : ∀ y, rs g y ≤ 16 * y
  | 0 => Nat.le_refl _
  | y + 1 => by have := rs_le g y; have := bs_le (g y) 16; rw [rs_succ]; omega
theorem bs_more {W k : Nat} (h : W < 2 ^ k) : ∀ d, bs W (k + d) = bs W k
  | 0 => rfl
  | d + 1 => by
    rw [show k + (d + 1) = (k + d) + 1 from by omega, bs_succ, bs_more h d]
    have : 2 ^ k ≤ 2 ^ (k + d) := Nat.pow_le_pow_right (by omega) (by omega)
    rw [Nat.testBit_lt_two_pow (by omega)]
    simp
theorem bs_row {ss : List ByteArray} (V : VP ss) (y : Nat) : bs (wordsOf ss y) 16 = bs (wordsOf ss y) (row0 ss).size := by
  have := bs_more (words_lt_pow V y) (16 - (row0 ss).size)
  rwa [show (row0 ss).size + (16 - (row0 ss).size) = 16 from by have := V.w16; omega] at this
theorem bs_zero : ∀ k, bs 0 k = 0
  | 0 => rfl
  | k + 1 => by rw [bs_succ, bs_zero k]; simp
theorem rs_more (ss : List ByteArray) : ∀ d, rs (wordsOf ss) (ss.length + d) = rs (wordsOf ss) ss.length
  | 0 => rfl
  | d + 1 => by
    rw [show ss.length + (d + 1) = (ss.length + d) + 1 from by omega, rs_succ, rs_more ss d]
    have : wordsOf ss (ss.length + d) = 0 := by unfold wordsOf; rw [if_neg (by omega)]
    rw [this, bs_zero, Nat.add_zero]
theorem rs_all {ss : List ByteArray} (V : VP ss) : rs (wordsOf ss) 16 = rs (wordsOf ss) ss.length := by
  have := rs_more ss (16 - ss.length)
  rwa [show ss.length + (16 - ss.length) = 16 from by have := V.n16; omega] at this

set_option maxHeartbeats 1600000 in
set_option maxRecDepth 100000 in
theorem l01Count_any (pb po : Nat) (ss : List ByteArray) (w : World) (hp : PicAt w pb po ss) :
    Calls Tryd.prog 154 #[.pointer (some ⟨pb, po, none⟩)] w fun e w' => e = .returned (.int .i64 (rs (wordsOf ss) ss.length)) ∧ w = w' := by
  obtain ⟨b, off, cap, hc, hst, V⟩ := hp.open'
  have hn := V.n16
  have hw := V.w16
  have HS := Lib.hid hst.2
  have HR : Hid (∀ y, y < ss.length → (ss.getD y ByteArray.empty).size = (row0 ss).size) := fun y hy => (V.rows y hy).1
  have HW : Hid (∀ y x, y < ss.length → x < (row0 ss).size → (wordsOf ss y).testBit x = blackAt (ss.getD y ByteArray.empty) x) := fun y x hy hx => words_at V y x hy hx
  have HB : Hid (∀ y, bs (wordsOf ss y) 16 = bs (wordsOf ss y) (row0 ss).size) := fun y => bs_row V y
  obtain ⟨g, hg⟩ : ∃ g, wordsOf ss = g := ⟨_, rfl⟩
  rw [hg] at HW HB ⊢
  have HL : Hid (∀ y, rs g y ≤ 16 * y) := fun y => rs_le g y
  obtain ⟨wd, hwd⟩ : ∃ k, (row0 ss).size = k := ⟨_, rfl⟩
  obtain ⟨n, hnn⟩ : ∃ k, ss.length = k := ⟨_, rfl⟩
  rw [hwd] at hw HR HW HB
  rw [hnn] at hn hc HS HR HW ⊢
  clear hst V hp hg hwd hnn
  go_enter Tryd.func154, Tryd.ntmps154
  go_wp2
  go_loop [3, 4] (fun nv yv => ∃ y : Nat, y ≤ n ∧ yv = .int .i64 y ∧ nv = .int .i64 (rs g y)) (fun _ yv => n - (intOf yv).toNat)
  case atStart => exact ⟨0, Nat.zero_le _, rfl, rfl⟩
  case round =>
    obtain ⟨y, hy, rfl, rfl⟩ := hrel
    by_cases hlt : y < n
    · have kyn : (y : Int) < (n : Int) := by omega
      have hcell := HS.out y hlt
      have hsz := HR.out y hlt
      have hbl := fun x hx => HW.out y x hlt hx
      have hr := rs_succ g y
      rw [HB.out y] at hr
      have hrl := HL.out y
      obtain ⟨s, hs⟩ : ∃ s, ss.getD y ByteArray.empty = s := ⟨_, rfl⟩
      obtain ⟨W, hW⟩ : ∃ W, g y = W := ⟨_, rfl⟩
      obtain ⟨r, hrr⟩ : ∃ r, rs g y = r := ⟨_, rfl⟩
      rw [hs] at hcell hsz hbl
      rw [hW] at hbl hr
      rw [hrr] at hr hrl ⊢
      have HBL := Lib.hid hbl
      have HRS := Lib.hid hr
      have HSZ := Lib.hid hsz
      have ks : (s.size : Int) ≤ 16 := by omega
      clear hbl hr hs hW hrr hsz
      go_wp2
      go_loop [3, 5] (fun nv xv => ∃ x : Nat, x ≤ wd ∧ xv = .int .i64 x ∧ nv = .int .i64 ((r + bs W x : Nat) : Int)) (fun _ xv => wd - (intOf xv).toNat)
      case atStart => exact ⟨0, Nat.zero_le _, rfl, rfl⟩
      case round =>
        obtain ⟨x, hx, rfl, rfl⟩ := hrel
        have hble := bs_le W x
        by_cases hlt2 : x < wd
        · have hxs : x < s.size := by rw [HSZ.out]; exact hlt2
          have kxs : (x : Int) < (s.size : Int) := by omega
          have hb35 := black35 s x hxs
          have hbit := HBL.out x hlt2
          have hsu := bs_succ W x
          rw [hbit] at hsu
          obtain ⟨bt, hbt⟩ : ∃ t, blackAt s x = t := ⟨_, rfl⟩
          rw [hbt] at hb35 hsu
          obtain ⟨q, hq⟩ : ∃ q, bs W x = q := ⟨_, rfl⟩
          rw [hq] at hsu hble ⊢
          have HSU := Lib.hid hsu
          have kq : (q : Int) ≤ 16 := by omega
          have kr : (r : Int) ≤ 256 := by omega
          clear hsu hbit hbt hq
          cases bt with
          | true =>
            go_wp2
            go_round
            case rel => exact ⟨x + 1, by omega, by go_num, by rw [HSU.out]; go_num⟩
            case measure => simp [intOf]; omega
          | false =>
            go_wp2
            go_round
            case rel => exact ⟨x + 1, by omega, by go_num, by rw [HSU.out]; simp⟩
            case measure => simp [intOf]; omega
        · obtain rfl : x = wd := by omega
          have knx : ¬ (x : Int) < (s.size : Int) := by rw [HSZ.out]; omega
          obtain ⟨q, hq⟩ : ∃ q, r + bs W x = q := ⟨_, rfl⟩
          have HQ := Lib.hid hq
          rw [hq]
          clear hq
          go_wp2
          go_round
          case rel => exact ⟨y + 1, hlt, by go_num, by rw [HRS.out, HQ.out]⟩
          case measure => simp [intOf]; omega
    · obtain rfl : y = n := by omega
      obtain ⟨r, hrr⟩ : ∃ r, rs g y = r := ⟨_, rfl⟩
      have HRR := Lib.hid hrr
      rw [hrr]
      clear hrr
      go_wp2
      go_ret
      exact ⟨by rw [HRR.out]; rfl, rfl⟩
end Go.Proofs.YtakaglbbcaplhaaDoor
