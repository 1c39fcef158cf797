/- Contracts of single functions, and plain lemmas, on which the exact laws of this seat rest; each holds under the conditions that it states. -/
import Derived.Test.YtakaglbbcaplhaaDoorCa
import Derived.Test.YtakaglbbcaplhaaDoorSc
import Derived.Deep.MidRow
namespace Go.Proofs.YtakaglbbcaplhaaDoor
set_option linter.unusedVariables false
open Go.RowKit

/-- the black pixels of the first rows -/
def rs (g : Nat → Nat) : Nat → Nat
  | 0 => 0
  | y + 1 => rs g y + bs (g y) 16
theorem rs_succ (g : Nat → Nat) (y : Nat) : rs g (y + 1) = rs g y + bs (g y) 16 := rfl
theorem rs_le (g : Nat → Nat) : ∀ y, rs g y ≤ 16 * y
  | 0 => Nat.le_refl _
  | y + 1 => by have := rs_le g y; have := bs_le (g y) 16; rw [rs_succ]; omega
theorem bs_more {W k : Nat} (h : W < 2 ^ k) : ∀ d, bs W (k + d) = bs W k
  | 0 => rfl
  | d + 1 => by
    rw [show k + (d + 1) = (k + d) + 1 from by omega, bs_succ, bs_more h d]
    have : 2 ^ k ≤ 2 ^ (k + d) := Nat.pow_le_pow_right (by omega) (by omega)
    rw [Nat.testBit_lt_two_pow (by omega)]
    simp
theorem bs_row {ss : List ByteArray} (V : VP ss) (y : Nat) : bs (wordsOf ss y) 16 = bs (wordsOf ss y) (row0 ss).size := by
  have := bs_more (words_lt_pow V y) (16 - (row0 ss).size)
  rwa [show (row0 ss).size + (16 - (row0 ss).size) = 16 from by have := V.w16; omega] at this
theorem bs_zero : ∀ k, bs 0 k = 0
  | 0 => rfl
  | k + 1 => by rw [bs_succ, bs_zero k]; simp
theorem rs_more (ss : List ByteArray) : ∀ d, rs (wordsOf ss) (ss.length + d) = rs (wordsOf ss) ss.length
  | 0 => rfl
  | d + 1 => by
    rw [show ss.length + (d + 1) = (ss.length + d) + 1 from by omega, rs_succ, rs_more ss d]
    have : wordsOf ss (ss.length + d) = 0 := by unfold wordsOf; rw [if_neg (by omega)]
    rw [this, bs_zero, Nat.add_zero]
theorem rs_all {ss : List ByteArray} (V : VP ss) : rs (wordsOf ss) 16 = rs (wordsOf ss) ss.length := by
  have := rs_more ss (16 - ss.length)
  rwa [show ss.length + (16 - ss.length) = 16 from by have := V.n16; omega] at this

set_option maxHeartbeats 1600000 in
set_option maxRecDepth 100000 in
theorem l01Count_any (pb po : Nat) (ss : List ByteArray) (w : World) (hp : PicAt w pb po ss) :
    Calls Tryd.prog 154 #[.pointer (some ⟨pb, po, none⟩)] w fun e w' => e = .returned (.int .i64 (rs (wordsOf ss) ss.length)) ∧ w = w' := by
  obtain ⟨b, off, cap, hc, hst, V⟩ := hp.open'
  have hn := V.n16
  have hw := V.w16
  have HS := Lib.hid hst.2
  have HR : Hid (∀ y, y < ss.length → (ss.getD y ByteArray.empty).size = (row0 ss).size) := fun y hy => (V.rows y hy).1
  have HW : Hid (∀ y x, y < ss.length → x < (row0 ss).size → (wordsOf ss y).testBit x = blackAt (ss.getD y ByteArray.empty) x) := fun y x hy hx => words_at V y x hy hx
  have HB : Hid (∀ y, bs (wordsOf ss y) 16 = bs (wordsOf ss y) (row0 ss).size) := fun y => bs_row V y
  obtain ⟨g, hg⟩ : ∃ g, wordsOf ss = g := ⟨_, rfl⟩
  rw [hg] at HW HB ⊢
  have HL : Hid (∀ y, rs g y ≤ 16 * y) := fun y => rs_le g y
  obtain ⟨wd, hwd⟩ : ∃ k, (row0 ss).size = k := ⟨_, rfl⟩
  obtain ⟨n, hnn⟩ : ∃ k, ss.length = k := ⟨_, rfl⟩
  rw [hwd] at hw HR HW HB
  rw [hnn] at hn hc HS HR HW ⊢
  clear hst V hp hg hwd hnn
  go_enter Tryd.func154, Tryd.ntmps154
  go_wp2
  go_loop [3, 4] (fun nv yv => ∃ y : Nat, y ≤ n ∧ yv = .int .i64 y ∧ nv = .int .i64 (rs g y)) (fun _ yv => n - (intOf yv).toNat)
  case atStart => exact ⟨0, Nat.zero_le _, rfl, rfl⟩
  case round =>
    obtain ⟨y, hy, rfl, rfl⟩ := hrel
    by_cases hlt : y < n
    · have kyn : (y : Int) < (n : Int) := by omega
      have hcell := HS.out y hlt
      have hsz := HR.out y hlt
      have hbl := fun x hx => HW.out y x hlt hx
      have hr := rs_succ g y
      rw [HB.out y] at hr
      have hrl := HL.out y
      obtain ⟨s, hs⟩ : ∃ s, ss.getD y ByteArray.empty = s := ⟨_, rfl⟩
      obtain ⟨W, hW⟩ : ∃ W, g y = W := ⟨_, rfl⟩
      obtain ⟨r, hrr⟩ : ∃ r, rs g y = r := ⟨_, rfl⟩
      rw [hs] at hcell hsz hbl
      rw [hW] at hbl hr
      rw [hrr] at hr hrl ⊢
      have HBL := Lib.hid hbl
      have HRS := Lib.hid hr
      have HSZ := Lib.hid hsz
      have ks : (s.size : Int) ≤ 16 := by omega
      clear hbl hr hs hW hrr hsz
      go_wp2
      go_loop [3, 5] (fun nv xv => ∃ x : Nat, x ≤ wd ∧ xv = .int .i64 x ∧ nv = .int .i64 ((r + bs W x : Nat) : Int)) (fun _ xv => wd - (intOf xv).toNat)
      case atStart => exact ⟨0, Nat.zero_le _, rfl, rfl⟩
      case round =>
        obtain ⟨x, hx, rfl, rfl⟩ := hrel
        have hble := bs_le W x
        by_cases hlt2 : x < wd
        · have hxs : x < s.size := by rw [HSZ.out]; exact hlt2
          have kxs : (x : Int) < (s.size : Int) := by omega
          have hb35 := black35 s x hxs
          have hbit := HBL.out x hlt2
          have hsu := bs_succ W x
          rw [hbit] at hsu
          obtain ⟨bt, hbt⟩ : ∃ t, blackAt s x = t := ⟨_, rfl⟩
          rw [hbt] at hb35 hsu
          obtain ⟨q, hq⟩ : ∃ q, bs W x = q := ⟨_, rfl⟩
          rw [hq] at hsu hble ⊢
          have HSU := Lib.hid hsu
          have kq : (q : Int) ≤ 16 := by omega
          have kr : (r : Int) ≤ 256 := by omega
          clear hsu hbit hbt hq
          cases bt with
          | true =>
            go_wp2
            go_round
            case rel => exact ⟨x + 1, by omega, by go_num, by rw [HSU.out]; go_num⟩
            case measure => simp [intOf]; omega
          | false =>
            go_wp2
            go_round
            case rel => exact ⟨x + 1, by omega, by go_num, by rw [HSU.out]; simp⟩
            case measure => simp [intOf]; omega
        · obtain rfl : x = wd := by omega
          have knx : ¬ (x : Int) < (s.size : Int) := by rw [HSZ.out]; omega
          obtain ⟨q, hq⟩ : ∃ q, r + bs W x = q := ⟨_, rfl⟩
          have HQ := Lib.hid hq
          rw [hq]
          clear hq
          go_wp2
          go_round
          case rel => exact ⟨y + 1, hlt, by go_num, by rw [HRS.out, HQ.out]⟩
          case measure => simp [intOf]; omega
    · obtain rfl : y = n := by omega
      obtain ⟨r, hrr⟩ : ∃ r, rs g y = r := ⟨_, rfl⟩
      have HRR := Lib.hid hrr
      rw [hrr]
      clear hrr
      go_wp2
      go_ret
      exact ⟨by rw [HRR.out]; rfl, rfl⟩
end Go.Proofs.YtakaglbbcaplhaaDoor
