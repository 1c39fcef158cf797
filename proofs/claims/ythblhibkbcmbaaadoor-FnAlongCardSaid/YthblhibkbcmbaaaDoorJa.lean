/- Contracts of single functions, and plain lemmas, on which the exact laws of this seat rest; each holds under the conditions that it states. -/
import Derived.Test.YthblhibkbcmbaaaDoorQb
import Derived.BigQuiet
import Derived.Deep.QuietTactic
import Derived.Lib.Tables
import Derived.Lib.BitFns
import Derived.Test.YthblhibkbcmbaaaDoorSc
import Derived.Deep.MidRow
import Derived.Test.YthblhibkbcmbaaaDoorLi
import Derived.RegionTactic
import Derived.BigRegion
namespace Go.Proofs.YthblhibkbcmbaaaDoor
set_option linter.unusedVariables false
open Go.RowKit

/-- how many of the first k bits are set -/
def bs (W : Nat) : Nat → Nat
  | 0 => 0
  | k + 1 => bs W k + if W.testBit k then 1 else 0
theorem bs_succ (W k : Nat) : bs W (k + 1) = bs W k + if W.testBit k then 1 else 0 := rfl
theorem bs_le (W : Nat) : ∀ k, bs W k ≤ k
  | 0 => Nat.le_refl _
  | k + 1 => by have := bs_le W k; rw [bs_succ]; split <;> omega
theorem bs_mod (W : Nat) : ∀ k, k ≤ 8 → bs (W % 256) k = bs W k
  | 0, _ => rfl
  | k + 1, h => by
    rw [bs_succ, bs_succ, bs_mod W k (by omega)]
    have : (W % 256).testBit k = W.testBit k := by
      rw [show (256 : Nat) = 2 ^ 8 from rfl, Nat.testBit_mod_two_pow, decide_eq_true (by omega : k < 8), Bool.true_and]
    rw [this]
theorem bs_div (W : Nat) : ∀ k, bs W (k + 8) = bs W 8 + bs (W / 256) k
  | 0 => by rw [Nat.zero_add]; rfl
  | k + 1 => by
    rw [show k + 1 + 8 = (k + 8) + 1 from by omega, bs_succ W (k + 8), bs_succ (W / 256) k, bs_div W k]
    have : (W / 256).testBit k = W.testBit (k + 8) := by
      rw [show (256 : Nat) = 2 ^ 8 from rfl, Nat.testBit_div_two_pow]
    rw [this]; omega
theorem bs_split (W : Nat) : bs W 16 = bs (W % 256) 8 + bs (W / 256) 8 := by
  rw [bs_mod W 8 (by omega), ← bs_div W 8]
theorem pop8_bs : ∀ b : Fin 256, Lib.pop8 (b.val : Int) = ((bs b.val 8 : Nat) : Int) := by decide +kernel
theorem pop8_nat (b : Nat) (h : b < 256) : Lib.pop8 (b : Int) = ((bs b 8 : Nat) : Int) := pop8_bs ⟨b, h⟩

theorem foldP : (⟨(([0, 1, 1, 2, 1, 2, 2, 3, 1, 2, 2, 3, 2, 3, 3, 4, 1, 2, 2, 3, 2, 3, 3, 4, 2, 3, 3, 4, 3, 4, 4, 5, 1, 2, 2, 3, 2, 3, 3, 4, 2, 3, 3, 4, 3, 4, 4, 5, 2, 3, 3, 4, 3, 4, 4, 5, 3, 4, 4, 5, 4, 5, 5, 6].append [1, 2, 2, 3, 2, 3, 3, 4, 2, 3, 3, 4, 3, 4, 4, 5, 2, 3, 3, 4, 3, 4, 4, 5, 3, 4, 4, 5, 4, 5, 5, 6, 2, 3, 3, 4, 3, 4, 4, 5, 3, 4, 4, 5, 4, 5, 5, 6, 3, 4, 4, 5, 4, 5, 5, 6, 4, 5, 5, 6, 5, 6, 6, 7]).append ([1, 2, 2, 3, 2, 3, 3, 4, 2, 3, 3, 4, 3, 4, 4, 5, 2, 3, 3, 4, 3, 4, 4, 5, 3, 4, 4, 5, 4, 5, 5, 6, 2, 3, 3, 4, 3, 4, 4, 5, 3, 4, 4, 5, 4, 5, 5, 6, 3, 4, 4, 5, 4, 5, 5, 6, 4, 5, 5, 6, 5, 6, 6, 7].append [2, 3, 3, 4, 3, 4, 4, 5, 3, 4, 4, 5, 4, 5, 5, 6, 3, 4, 4, 5, 4, 5, 5, 6, 4, 5, 5, 6, 5, 6, 6, 7, 3, 4, 4, 5, 4, 5, 5, 6, 4, 5, 5, 6, 5, 6, 6, 7, 4, 5, 5, 6, 5, 6, 6, 7, 5, 6, 6, 7, 6, 7, 7, 8])).toArray⟩ : ByteArray) = Lib.pop8tab := by decide +kernel

set_option maxHeartbeats 1000000 in
set_option maxRecDepth 100000 in
theorem onesCount_any (W : Nat) (w : World) (hW : W < 65536) : Calls Tryd.prog 56 #[.int .u32 W] w fun e w' => e = .returned (.int .i64 (bs W 16)) ∧ Below w.heap.size w w' := by
  have hs := bs_split W
  have hh : W / 256 < 256 := by omega
  have hl : W % 256 < 256 := by omega
  have k1 : (W : Int) / 16777216 = 0 := by omega
  have k2 : bits .and .u32 ((W : Int) / 65536) 255 = 0 := by
    rw [show (W : Int) / 65536 = ((0 : Nat) : Int) from by omega, show (255 : Int) = ((255 : Nat) : Int) from rfl, u32_and_nat 0 255 (by omega) (by omega)]; rfl
  have k3 : bits .and .u32 ((W : Int) / 256) 255 = ((W / 256 : Nat) : Int) := by
    rw [show (W : Int) / 256 = ((W / 256 : Nat) : Int) from by omega, show (255 : Int) = ((255 : Nat) : Int) from rfl, u32_and_nat (W / 256) 255 (by omega) (by omega), show 255 = 2 ^ 8 - 1 from rfl, Nat.and_two_pow_sub_one_eq_mod, Nat.mod_eq_of_lt (by omega)]
  have k4 : bits .and .u32 (W : Int) 255 = ((W % 256 : Nat) : Int) := by
    rw [show (255 : Int) = ((255 : Nat) : Int) from rfl, u32_and_nat W 255 (by omega) (by omega), show 255 = 2 ^ 8 - 1 from rfl, Nat.and_two_pow_sub_one_eq_mod]
  obtain ⟨h, hhe⟩ : ∃ h, W / 256 = h := ⟨_, rfl⟩
  obtain ⟨l, hle⟩ : ∃ l, W % 256 = l := ⟨_, rfl⟩
  rw [hhe] at hs hh k3
  rw [hle] at hs hl k4
  have p0 : Lib.pop8 0 = 0 := by decide +kernel
  have p1 := pop8_nat h hh
  have p2 := pop8_nat l hl
  have b1 := bs_le h 8
  have b2 := bs_le l 8
  obtain ⟨x, hx⟩ : ∃ x, bs h 8 = x := ⟨_, rfl⟩
  obtain ⟨y, hy⟩ : ∃ y, bs l 8 = y := ⟨_, rfl⟩
  obtain ⟨z, hz⟩ : ∃ z, bs W 16 = z := ⟨_, rfl⟩
  rw [hx] at hs p1 b1
  rw [hy] at hs p2 b2
  rw [hz] at hs ⊢
  have HS := Lib.hid hs
  have q1 : (0 : Int) ≤ (h : Int) := by omega
  have q2 : (h : Int) ≤ 255 := by omega
  have q3 : (0 : Int) ≤ (l : Int) := by omega
  have q4 : (l : Int) ≤ 255 := by omega
  clear hs hhe hle hx hy hz hh hl
  go_enter Tryd.func56, Tryd.ntmps56
  go_wp2
  simp only [foldP]
  go_quiet (fail)
  go_wp2
  go_ret
  exact ⟨by rw [HS.out]; exact congrArg (fun n => Ending.returned (.int .i64 n)) (by omega), Joins.below_draws _ _ _⟩
end Go.Proofs.YthblhibkbcmbaaaDoor

/- Contracts of single functions, and plain lemmas, on which the exact laws of this seat rest; each holds under the conditions that it states. -/
namespace Go.Proofs.YthblhibkbcmbaaaDoor
set_option linter.unusedVariables false
open Go.RowKit

/-- the black pixels of the first rows -/
def rs (g : Nat → Nat) : Nat → Nat
  | 0 => 0
  | y + 1 => rs g y + bs (g y) 16
theorem rs_succ (g : Nat → Nat) (y : Nat) : rs g (y + 1) = rs g y + bs (g y) 16 := rfl
theorem rs_le (g : Nat → Nat) : ∀ y, rs g y ≤ 16 * y
  | 0 => Nat.le_refl _
  | y + 1 => by have := rs_le g y; have := bs_le (g y) 16; rw [rs_succ]; omega
theorem bs_more {W k : Nat} (h : W < 2 ^ k) : ∀ d, bs W (k + d) = bs W k
  | 0 => rfl
  | d + 1 => by
    rw [show k + (d + 1) = (k + d) + 1 from by omega, bs_succ, bs_more h d]
    have : 2 ^ k ≤ 2 ^ (k + d) := Nat.pow_le_pow_right (by omega) (by omega)
    rw [Nat.testBit_lt_two_pow (by omega)]
    simp
theorem bs_row {ss : List ByteArray} (V : VP ss) (y : Nat) : bs (wordsOf ss y) 16 = bs (wordsOf ss y) (row0 ss).size := by
  have := bs_more (words_lt_pow V y) (16 - (row0 ss).size)
  rwa [show (row0 ss).size + (16 - (row0 ss).size) = 16 from by have := V.w16; omega] at this
theorem bs_zero : ∀ k, bs 0 k = 0
  | 0 => rfl
  | k + 1 => by rw [bs_succ, bs_zero k]; simp
theorem rs_more (ss : List ByteArray) : ∀ d, rs (wordsOf ss) (ss.length + d) = rs (wordsOf ss) ss.length
  | 0 => rfl
  | d + 1 => by
    rw [show ss.length + (d + 1) = (ss.length + d) + 1 from by omega, rs_succ, rs_more ss d]
    have : wordsOf ss (ss.length + d) = 0 := by unfold wordsOf; rw [if_neg (by omega)]
    rw [this, bs_zero, Nat.add_zero]
theorem rs_all {ss : List ByteArray} (V : VP ss) : rs (wordsOf ss) 16 = rs (wordsOf ss) ss.length := by
  have := rs_more ss (16 - ss.length)
  rwa [show ss.length + (16 - ss.length) = 16 from by have := V.n16; omega] at this

end Go.Proofs.YthblhibkbcmbaaaDoor

/- Contracts of single functions, and plain lemmas, on which the exact laws of this seat rest; each holds under the conditions that it states. -/
namespace Go.Proofs.YthblhibkbcmbaaaDoor
set_option linter.unusedVariables false
open Go.RowKit

/-- a number and a bool handed back -/
def SaysIB (n : Int) (ok : Bool) (w : World) (e : Ending) (w' : World) : Prop := e = .returned (.tuple #[.int .i64 n, .bool ok]) ∧ Below w.heap.size w w'
theorem ret_ib {a c : Int} {b d : Bool} (h1 : a = c) (h2 : b = d) : Ending.returned (.tuple #[.int .i64 a, .bool b]) = .returned (.tuple #[.int .i64 c, .bool d]) := by rw [h1, h2]

def cbV (ss : List ByteArray) : Int := if validB ss then ((rs (wordsOf ss) ss.length : Nat) : Int) else 0

set_option maxHeartbeats 2000000 in
set_option maxRecDepth 100000 in
theorem impl_Count (v : Value) (ss : List ByteArray) (w : World) (hN : ss.length ≤ maxLen) (hz : ∀ s ∈ ss, s.size ≤ maxLen) (hv : Sl w v ss) (he : ErrLen w) :
    Calls Tryd.prog 22 #[.agg #[v]] w (SaysIB (cbV ss) (validB ss) w) := by
  have hb0 := Joins.below_alloc1 w (.cells #[v] 29)
  have C := Lib.hid (matrixOf_any v ss (w.alloc (.cells #[v] 29)) hN hz (hv.below hb0) (he.below hb0))
  have hsz := matC_size ss
  have hone := matC_one ss
  unfold MatOf at C
  have hMM : validB ss = true → matC ss = mat (row0 ss).size ss.length (wordsOf ss) := matC_yes
  obtain ⟨M, hM⟩ : ∃ M, matC ss = M := ⟨_, rfl⟩
  rw [hM] at C hsz hone hMM
  have HI : Hid ((Tryd.prog.info? 59).map (·.size) = some M.size) := by show _ = _; rw [hsz]; exact infoM
  have HZ := Lib.hid (zeros_size.trans hsz.symm)
  have HO := Lib.hid hone
  clear hM hsz hone hb0 hv he
  cases hok : validB ss with
  | false =>
    have e1 : Hid (cbV ss = 0) := by show cbV ss = _; unfold cbV; rw [hok]; rfl
    have HOk := Lib.hid hok
    clear hok hMM
    go_enter Tryd.func22, Tryd.ntmps22
    go_wp2_with fail
    refine C.out.mono ?_
    rintro e w1 ⟨rfl, hb⟩
    rw [HOk.out]
    have HB := Lib.hid hb
    clear hb
    go_wp2_with (refine wpList_store_row rfl 59 _ _ rfl w1.heap.size M rfl rfl 59 zeros (heap_alloc_last w1 _) HI.out HZ.out HO.out ?_)
    go_ret2
    have h1 : Below w.heap.size w w1 := (Joins.below_alloc1 w _).trans (HB.out.mono (by simp))
    exact ⟨ret_ib e1.out.symm rfl, setRow_below (h1.alloc h1.size _) h1.size _⟩
  | true =>
    have V := vp_of hok
    have hMM := hMM hok
    have e1 : Hid (cbV ss = ((rs (wordsOf ss) 16 : Nat) : Int)) := by show cbV ss = _; unfold cbV; rw [hok, rs_all V]; rfl
    have HG : Hid (∀ j, wordsOf ss j < 65536) := fun j => words_small V j
    obtain ⟨g, hg⟩ : ∃ g, wordsOf ss = g := ⟨_, rfl⟩
    rw [hg] at hMM e1 HG
    have HL : Hid (∀ y, rs g y ≤ 16 * y) := fun y => rs_le g y
    have HC : Hid (∀ j W, Calls Tryd.prog 56 #[.int .u32 (g j)] W fun e w' => e = .returned (.int .i64 (bs (g j) 16)) ∧ Below W.heap.size W w') := fun j W => onesCount_any (g j) W (HG.out j)
    have HR : Hid (∀ j, j < 16 → (rowsL g).toArray[j]? = some (.int .u32 (g j))) := fun j hj => rowsL_at g j hj
    have HOk := Lib.hid hok
    have HMM := Lib.hid hMM
    clear hok V hMM hg
    go_enter Tryd.func22, Tryd.ntmps22
    go_wp2_with fail
    refine C.out.mono ?_
    rintro e w1 ⟨rfl, hb⟩
    rw [HOk.out]
    have HB : Hid (Below w.heap.size w w1) := (Joins.below_alloc1 w (.cells #[v] 29)).trans (hb.mono (by simp))
    have hs1 := HB.out.size
    have hm0 : (w1.alloc (.cells M 59)).heap[w1.heap.size]? = some (.cells (mat (row0 ss).size ss.length g) 59 (0, 0)) := by rw [← HMM.out]; exact heap_alloc_last w1 _
    have HRA := Lib.hid (rowsL_range hm0)
    have HRL := Lib.hid (infoRows.trans (congrArg some (rowsL_len g).symm))
    obtain ⟨R, hR⟩ : ∃ R, rowsL g = R := ⟨_, rfl⟩
    rw [hR] at HRA HRL HR
    obtain ⟨RA, hRA⟩ : ∃ RA, R.toArray = RA := ⟨_, rfl⟩
    have HRe := Lib.hid hRA
    rw [hRA] at HR
    clear hb hm0 hR hRA
    go_wp2_with (first | (refine wpList_store_new w1 rfl 59 _ _ rfl M rfl rfl 59 zeros HI.out HZ.out HO.out ?_) | (refine wpList_load_mid rfl 57 _ rfl w1.heap.size 2 rfl R _ HRA.out Tryd.underlying57 rfl HRL.out ?_; rw [HRe.out]))
    go_loopw [6, 18] (fun nv iv wr => ∃ i : Nat, i ≤ 16 ∧ iv = .int .i64 i ∧ nv = .int .i64 (rs g i) ∧ Below w1.heap.size w1 wr) (fun _ iv _ => 16 - (intOf iv).toNat)
    case atStart => exact ⟨0, Nat.zero_le _, rfl, rfl, Joins.below_alloc1 _ _⟩
    case round =>
      obtain ⟨i, hi, rfl, rfl, hbel⟩ := hrel
      have HBe := Lib.hid hbel
      have hs := hbel.size
      clear hbel
      by_cases hlt : i < 16
      · have ki : (i : Int) < 16 := by omega
        have hri := HR.out i hlt
        have hci := HC.out i
        have hrs := rs_succ g i
        have hle := HL.out i
        have hbl := bs_le (g i) 16
        have hix := fun w => run_index_rows RA i _ w hlt hri
        obtain ⟨W, hW⟩ : ∃ W, g i = W := ⟨_, rfl⟩
        rw [hW] at hri hix hci hrs hbl
        obtain ⟨q, hq⟩ : ∃ q, bs W 16 = q := ⟨_, rfl⟩
        rw [hq] at hci hrs hbl
        obtain ⟨r, hr⟩ : ∃ r, rs g i = r := ⟨_, rfl⟩
        rw [hr] at hrs hle ⊢
        have HCI := Lib.hid hci
        have HRS := Lib.hid hrs
        have kq : (q : Int) ≤ 16 := by omega
        have kr : (r : Int) ≤ 256 := by omega
        clear hW hq hr hci hrs
        go_wp2_with fail
        refine (HCI.out _).mono ?_
        rintro e w2 ⟨rfl, hb2⟩
        have HB2 := Lib.hid (HBe.out.trans (hb2.mono hs))
        clear hb2
        go_wp2
        go_roundw
        case rel => exact ⟨i + 1, by omega, by go_num, by rw [HRS.out]; go_num, HB2.out⟩
        case measure => simp [intOf]; omega
      · obtain rfl : i = 16 := by omega
        obtain ⟨r, hr⟩ : ∃ r, rs g 16 = r := ⟨_, rfl⟩
        rw [hr] at e1 ⊢
        clear hr
        go_wp2
        go_ret2
        exact ⟨ret_ib e1.out.symm rfl, HB.out.trans (HBe.out.mono hs1)⟩
end Go.Proofs.YthblhibkbcmbaaaDoor

/- Contracts of single functions, and plain lemmas, on which the exact laws of this seat rest; each holds under the conditions that it states. -/
namespace Go.Proofs.YthblhibkbcmbaaaDoor
set_option linter.unusedVariables false
set_option linter.unusedSimpArgs false
open Go.RowKit

def NoMats (w : World) (e : Ending) (w' : World) : Prop := e = .returned (.tuple #[.agg zeros, .agg zeros, .bool false]) ∧ Below w.heap.size w w'

end Go.Proofs.YthblhibkbcmbaaaDoor

/- Contracts of single functions, and plain lemmas, on which the exact laws of this seat rest; each holds under the conditions that it states. -/
namespace Go.Proofs.YthblhibkbcmbaaaDoor
set_option linter.unusedVariables false
set_option linter.unusedSimpArgs false
open Go.RowKit

/-- the bits of one word that are not in the other one -/
def anW (W V : Nat) : Nat := W &&& (4294967295 - V)
theorem an_bits (W V : Nat) (hW : W < 4294967296) (hV : V < 4294967296) : bits .andNot .u32 (W : Int) (V : Int) = ((anW W V : Nat) : Int) := by
  rw [u32_andNot_nat W V hW hV]; rfl
theorem an_bit (W V x : Nat) (hV : V < 4294967296) (hx : x < 32) : (anW W V).testBit x = (W.testBit x && !V.testBit x) := by
  unfold anW
  rw [Nat.testBit_and]
  congr 1
  rw [show 4294967295 - V = 2 ^ 32 - (V + 1) from by omega, Nat.testBit_two_pow_sub_succ (by omega), decide_eq_true hx, Bool.true_and]

theorem sub_yes {ss tt : List ByteArray} (V : VP ss) (V2 : VP tt) (hw : (row0 ss).size = (row0 tt).size) (hh : ss.length = tt.length) (h : ∀ j, j < 16 → anW (wordsOf ss j) (wordsOf tt j) = 0) :
    subB (pixL ss (row0 ss).size ((row0 ss).size * ss.length)) (pixL tt (row0 ss).size ((row0 ss).size * ss.length)) = true := by
  refine subB_yes fun i hi => ?_
  rw [pixL_len] at hi
  have hw1 := V.w1
  have hx : i % (row0 ss).size < (row0 ss).size := Nat.mod_lt _ (by omega)
  have hy : i / (row0 ss).size < ss.length := Nat.div_lt_of_lt_mul hi
  have e1 : (pixL ss (row0 ss).size ((row0 ss).size * ss.length)).getD i false = pixF ss (i / (row0 ss).size) (i % (row0 ss).size) := by simp [pixL, List.getD, hi]
  have e2 : (pixL tt (row0 ss).size ((row0 ss).size * ss.length)).getD i false = pixF tt (i / (row0 ss).size) (i % (row0 ss).size) := by simp [pixL, List.getD, hi]
  rw [e1, e2, ← words_at V _ _ hy hx, ← words_at V2 _ _ (by omega) (by omega)]
  have := h (i / (row0 ss).size) (by have := V.n16; omega)
  have hb := an_bit (wordsOf ss (i / (row0 ss).size)) (wordsOf tt (i / (row0 ss).size)) (i % (row0 ss).size) (words_lt V2 _) (by have := V.w16; omega)
  rw [this, Nat.zero_testBit] at hb
  intro ht
  rw [ht] at hb
  simpa using hb.symm

theorem sub_no {ss tt : List ByteArray} (V : VP ss) (V2 : VP tt) (hw : (row0 ss).size = (row0 tt).size) (hh : ss.length = tt.length) {j : Nat} (h : anW (wordsOf ss j) (wordsOf tt j) ≠ 0) :
    subB (pixL ss (row0 ss).size ((row0 ss).size * ss.length)) (pixL tt (row0 ss).size ((row0 ss).size * ss.length)) = false := by
  obtain ⟨x, hx⟩ : ∃ x, (anW (wordsOf ss j) (wordsOf tt j)).testBit x = true := by
    by_cases hc : ∃ x, (anW (wordsOf ss j) (wordsOf tt j)).testBit x = true
    · exact hc
    · exfalso
      refine h (Nat.eq_of_testBit_eq fun x => ?_)
      rw [Nat.zero_testBit]
      cases hb : (anW (wordsOf ss j) (wordsOf tt j)).testBit x with
      | false => rfl
      | true => exact absurd ⟨x, hb⟩ hc
  have hs : (wordsOf ss j).testBit x = true := by
    unfold anW at hx
    rw [Nat.testBit_and] at hx
    exact (Bool.and_eq_true_iff.1 hx).1
  have hj : j < ss.length := by
    by_cases hc : j < ss.length
    · exact hc
    · unfold wordsOf at hs
      rw [if_neg hc, Nat.zero_testBit] at hs
      exact absurd hs (by decide)
  have hxw : x < (row0 ss).size := by
    by_cases hc : x < (row0 ss).size
    · exact hc
    · have h1 := words_lt_pow V j
      have h2 : 2 ^ (row0 ss).size ≤ 2 ^ x := Nat.pow_le_pow_right (by omega) (by omega)
      rw [Nat.testBit_lt_two_pow (by omega)] at hs
      exact absurd hs (by decide)
  have hb := an_bit (wordsOf ss j) (wordsOf tt j) x (words_lt V2 _) (by have := V.w16; omega)
  rw [hx, hs, Bool.true_and] at hb
  have ht : (wordsOf tt j).testBit x = false := by simpa using hb.symm
  have h3 : (j + 1) * (row0 ss).size ≤ ss.length * (row0 ss).size := Nat.mul_le_mul_right _ hj
  rw [Nat.add_mul, Nat.one_mul, Nat.mul_comm ss.length] at h3
  refine subB_no (i := j * (row0 ss).size + x) (by rw [pixL_len]; omega) ?_ ?_
  · rw [pixL_at ss _ _ j x hj hxw, ← words_at V _ _ hj hxw]; exact hs
  · rw [pixL_at tt _ _ j x hj hxw, ← words_at V2 _ _ (by omega) (by omega)]; exact ht

end Go.Proofs.YthblhibkbcmbaaaDoor

/- Contracts of single functions, and plain lemmas, on which the exact laws of this seat rest; each holds under the conditions that it states. -/
namespace Go.Proofs.YthblhibkbcmbaaaDoor
set_option linter.unusedVariables false
set_option linter.unusedSimpArgs false
open Go.RowKit

/-- the first i of a list are joined with another list's -/
def mixJ (f : Bool → Bool → Bool) (l m : List Bool) (i : Nat) : List Bool := (List.range l.length).map fun j => if j < i then f (l.getD j false) (m.getD j false) else l.getD j false
theorem mixJ_len (f : Bool → Bool → Bool) (l m : List Bool) (i : Nat) : (mixJ f l m i).length = l.length := by simp [mixJ]
theorem mixJ_at (f : Bool → Bool → Bool) (l m : List Bool) (i j : Nat) (hj : j < l.length) : (mixJ f l m i)[j]? = some (if j < i then f (l.getD j false) (m.getD j false) else l.getD j false) := by
  simp [mixJ, hj]
theorem mixJ_zero (f : Bool → Bool → Bool) (l m : List Bool) : mixJ f l m 0 = l := by
  apply List.ext_getElem?
  intro j
  by_cases hj : j < l.length
  · rw [mixJ_at f l m 0 j hj, if_neg (by omega), List.getD_eq_getElem?_getD, List.getElem?_eq_getElem hj]; rfl
  · rw [List.getElem?_eq_none (by rw [mixJ_len]; omega), List.getElem?_eq_none (by omega)]
theorem mixJ_set (f : Bool → Bool → Bool) (l m : List Bool) (i : Nat) (hi : i < l.length) : (mixJ f l m i).set i (f (l.getD i false) (m.getD i false)) = mixJ f l m (i + 1) := by
  apply List.ext_getElem?
  intro j
  by_cases hj : j < l.length
  · rw [mixJ_at f l m (i + 1) j hj]
    by_cases h : i = j
    · subst h
      rw [List.getElem?_set_self (by rw [mixJ_len]; exact hj), if_pos (by omega)]
    · rw [List.getElem?_set_ne h, mixJ_at f l m i j hj]
      by_cases h2 : j < i
      · rw [if_pos h2, if_pos (by omega)]
      · rw [if_neg h2, if_neg (by omega)]
  · rw [List.getElem?_eq_none (by rw [List.length_set, mixJ_len]; omega), List.getElem?_eq_none (by rw [mixJ_len]; omega)]
theorem mixJ_all (f : Bool → Bool → Bool) (l m : List Bool) (j : Nat) (hj : j < l.length) : (mixJ f l m l.length).getD j false = f (l.getD j false) (m.getD j false) := by
  rw [List.getD_eq_getElem?_getD, mixJ_at f l m _ j hj, if_pos hj]; rfl

def joF (f : Bool → Bool → Bool) (ss tt : List ByteArray) (y x : Nat) : Bool := f (pixF ss y x) (pixF tt y x)
theorem jo_at (f : Bool → Bool → Bool) (ss tt : List ByteArray) (wd h y x : Nat) (hy : y < h) (hx : x < wd) : (mixJ f (pixL ss wd (wd * h)) (pixL tt wd (wd * h)) (wd * h)).getD (y * wd + x) false = joF f ss tt y x := by
  have h3 : (y + 1) * wd ≤ h * wd := Nat.mul_le_mul_right _ hy
  rw [Nat.add_mul, Nat.one_mul, Nat.mul_comm h wd] at h3
  have := mixJ_all f (pixL ss wd (wd * h)) (pixL tt wd (wd * h)) (y * wd + x) (by rw [pixL_len]; omega)
  rw [pixL_len, pixL_at ss wd h y x hy hx, pixL_at tt wd h y x hy hx] at this
  exact this
def jF0 (p q : Bool) : Bool := (p && q)
def jW0 (W V : Nat) : Nat := W &&& V
def jF1 (p q : Bool) : Bool := (p || q)
def jW1 (W V : Nat) : Nat := W ||| V
def jF2 (p q : Bool) : Bool := (p != q)
def jW2 (W V : Nat) : Nat := W ^^^ V
def jF3 (p q : Bool) : Bool := (p && !q)
def jW3 (W V : Nat) : Nat := anW W V
theorem jB0 (W V x : Nat) (hV : V < 4294967296) (hx : x < 32) : (jW0 W V).testBit x = jF0 (W.testBit x) (V.testBit x) := by unfold jW0 jF0; rw [Nat.testBit_and]
theorem jB1 (W V x : Nat) (hV : V < 4294967296) (hx : x < 32) : (jW1 W V).testBit x = jF1 (W.testBit x) (V.testBit x) := by unfold jW1 jF1; rw [Nat.testBit_or]
theorem jB2 (W V x : Nat) (hV : V < 4294967296) (hx : x < 32) : (jW2 W V).testBit x = jF2 (W.testBit x) (V.testBit x) := by unfold jW2 jF2; rw [Nat.testBit_xor]
theorem jB3 (W V x : Nat) (hV : V < 4294967296) (hx : x < 32) : (jW3 W V).testBit x = jF3 (W.testBit x) (V.testBit x) := by unfold jW3 jF3; rw [an_bit W V x hV hx]
theorem jL0 (W V : Nat) (hW : W < 4294967296) (hV : V < 4294967296) : jW0 W V < 4294967296 := Nat.lt_of_le_of_lt Nat.and_le_left hW
theorem jL1 (W V : Nat) (hW : W < 4294967296) (hV : V < 4294967296) : jW1 W V < 4294967296 := Nat.or_lt_two_pow (n := 32) hW hV
theorem jL2 (W V : Nat) (hW : W < 4294967296) (hV : V < 4294967296) : jW2 W V < 4294967296 := Nat.xor_lt_two_pow (n := 32) hW hV
theorem jL3 (W V : Nat) (hW : W < 4294967296) (hV : V < 4294967296) : jW3 W V < 4294967296 := Nat.lt_of_le_of_lt Nat.and_le_left hW
theorem jO0 (W V : Nat) (hW : W < 4294967296) (hV : V < 4294967296) : bits .and .u32 (W : Int) (V : Int) = ((jW0 W V : Nat) : Int) := u32_and_nat W V hW hV
theorem jO1 (W V : Nat) (hW : W < 4294967296) (hV : V < 4294967296) : bits .or .u32 (W : Int) (V : Int) = ((jW1 W V : Nat) : Int) := u32_or_nat W V hW hV
theorem jO2 (W V : Nat) (hW : W < 4294967296) (hV : V < 4294967296) : bits .xor .u32 (W : Int) (V : Int) = ((jW2 W V : Nat) : Int) := u32_xor_nat W V hW hV
theorem jO3 (W V : Nat) (hW : W < 4294967296) (hV : V < 4294967296) : bits .andNot .u32 (W : Int) (V : Int) = ((jW3 W V : Nat) : Int) := an_bits W V hW hV

end Go.Proofs.YthblhibkbcmbaaaDoor
