/- Contracts of single functions, and plain lemmas, on which the exact laws of this seat rest; each holds under the conditions that it states. -/
import Derived.Test.YthblhibkbcmbaaaDoorCa
import Derived.Test.YthblhibkbcmbaaaDoorSc
import Derived.Deep.MidRow
namespace Go.Proofs.YthblhibkbcmbaaaDoor
set_option linter.unusedVariables false
open Go.RowKit

/-- the black pixels of the first rows -/
def rs (g : Nat → Nat) : Nat → Nat
  | 0 => 0
  | y + 1 => rs g y + bs (g y) 16
theorem rs_succ (g : Nat → Nat) (y : Nat) : rs g (y + 1) = rs g y + bs (g y) 16 := rfl
theorem rs_le (g : Nat → Nat) : ∀ y, rs g y ≤ 16 * y
  | 0 => Nat.le_refl _
  | y + 1 => by have := rs_le g y; have := bs_le (g y) 16; rw [rs_succ]; omega
theorem bs_more {W k : Nat} (h : W < 2 ^ k) : ∀ d, bs W (k + d) = bs W k
  | 0 => rfl
  | d + 1 => by
    rw [show k + (d + 1) = (k + d) + 1 from by omega, bs_succ, bs_more h d]
    have : 2 ^ k ≤ 2 ^ (k + d) := Nat.pow_le_pow_right (by omega) (by omega)
    rw [Nat.testBit_lt_two_pow (by omega)]
    simp
theorem bs_row {ss : List ByteArray} (V : VP ss) (y : Nat) : bs (wordsOf ss y) 16 = bs (wordsOf ss y) (row0 ss).size := by
  have := bs_more (words_lt_pow V y) (16 - (row0 ss).size)
  rwa [show (row0 ss).size + (16 - (row0 ss).size) = 16 from by have := V.w16; omega] at this
theorem bs_zero : ∀ k, bs 0 k = 0
  | 0 => rfl
  | k + 1 => by rw [bs_succ, bs_zero k]; simp
theorem rs_more (ss : List ByteArray) : ∀ d, rs (wordsOf ss) (ss.length + d) = rs (wordsOf ss) ss.length
  | 0 => rfl
  | d + 1 => by
    rw [show ss.length + (d + 1) = (ss.length + d) + 1 from by omega, rs_succ, rs_more ss d]
    have : wordsOf ss (ss.length + d) = 0 := by unfold wordsOf; rw [if_neg (by omega)]
    rw [this, bs_zero, Nat.add_zero]
theorem rs_all {ss : List ByteArray} (V : VP ss) : rs (wordsOf ss) 16 = rs (wordsOf ss) ss.length := by
  have := rs_more ss (16 - ss.length)
  rwa [show ss.length + (16 - ss.length) = 16 from by have := V.n16; omega] at this

end Go.Proofs.YthblhibkbcmbaaaDoor

/- Contracts of single functions, and plain lemmas, on which the exact laws of this seat rest; each holds under the conditions that it states. -/
namespace Go.Proofs.YthblhibkbcmbaaaDoor
set_option linter.unusedVariables false
open Go.RowKit

/-- a number and a bool handed back -/
def SaysIB (n : Int) (ok : Bool) (w : World) (e : Ending) (w' : World) : Prop := e = .returned (.tuple #[.int .i64 n, .bool ok]) ∧ Below w.heap.size w w'
theorem ret_ib {a c : Int} {b d : Bool} (h1 : a = c) (h2 : b = d) : Ending.returned (.tuple #[.int .i64 a, .bool b]) = .returned (.tuple #[.int .i64 c, .bool d]) := by rw [h1, h2]

def cbV (ss : List ByteArray) : Int := if validB ss then ((rs (wordsOf ss) ss.length : Nat) : Int) else 0

set_option maxHeartbeats 2000000 in
set_option maxRecDepth 100000 in
theorem impl_Count (v : Value) (ss : List ByteArray) (w : World) (hN : ss.length ≤ maxLen) (hz : ∀ s ∈ ss, s.size ≤ maxLen) (hv : Sl w v ss) (he : ErrLen w) :
    Calls Tryd.prog 22 #[.agg #[v]] w (SaysIB (cbV ss) (validB ss) w) := by
  have hb0 := Joins.below_alloc1 w (.cells #[v] 29)
  have C := Lib.hid (matrixOf_any v ss (w.alloc (.cells #[v] 29)) hN hz (hv.below hb0) (he.below hb0))
  have hsz := matC_size ss
  have hone := matC_one ss
  unfold MatOf at C
  have hMM : validB ss = true → matC ss = mat (row0 ss).size ss.length (wordsOf ss) := matC_yes
  obtain ⟨M, hM⟩ : ∃ M, matC ss = M := ⟨_, rfl⟩
  rw [hM] at C hsz hone hMM
  have HI : Hid ((Tryd.prog.info? 59).map (·.size) = some M.size) := by show _ = _; rw [hsz]; exact infoM
  have HZ := Lib.hid (zeros_size.trans hsz.symm)
  have HO := Lib.hid hone
  clear hM hsz hone hb0 hv he
  cases hok : validB ss with
  | false =>
    have e1 : Hid (cbV ss = 0) := by show cbV ss = _; unfold cbV; rw [hok]; rfl
    have HOk := Lib.hid hok
    clear hok hMM
    go_enter Tryd.func22, Tryd.ntmps22
    go_wp2_with fail
    refine C.out.mono ?_
    rintro e w1 ⟨rfl, hb⟩
    rw [HOk.out]
    have HB := Lib.hid hb
    clear hb
    go_wp2_with (refine wpList_store_row rfl 59 _ _ rfl w1.heap.size M rfl rfl 59 zeros (heap_alloc_last w1 _) HI.out HZ.out HO.out ?_)
    go_ret2
    have h1 : Below w.heap.size w w1 := (Joins.below_alloc1 w _).trans (HB.out.mono (by simp))
    exact ⟨ret_ib e1.out.symm rfl, setRow_below (h1.alloc h1.size _) h1.size _⟩
  | true =>
    have V := vp_of hok
    have hMM := hMM hok
    have e1 : Hid (cbV ss = ((rs (wordsOf ss) 16 : Nat) : Int)) := by show cbV ss = _; unfold cbV; rw [hok, rs_all V]; rfl
    have HG : Hid (∀ j, wordsOf ss j < 65536) := fun j => words_small V j
    obtain ⟨g, hg⟩ : ∃ g, wordsOf ss = g := ⟨_, rfl⟩
    rw [hg] at hMM e1 HG
    have HL : Hid (∀ y, rs g y ≤ 16 * y) := fun y => rs_le g y
    have HC : Hid (∀ j W, Calls Tryd.prog 56 #[.int .u32 (g j)] W fun e w' => e = .returned (.int .i64 (bs (g j) 16)) ∧ Below W.heap.size W w') := fun j W => onesCount_any (g j) W (HG.out j)
    have HR : Hid (∀ j, j < 16 → (rowsL g).toArray[j]? = some (.int .u32 (g j))) := fun j hj => rowsL_at g j hj
    have HOk := Lib.hid hok
    have HMM := Lib.hid hMM
    clear hok V hMM hg
    go_enter Tryd.func22, Tryd.ntmps22
    go_wp2_with fail
    refine C.out.mono ?_
    rintro e w1 ⟨rfl, hb⟩
    rw [HOk.out]
    have HB : Hid (Below w.heap.size w w1) := (Joins.below_alloc1 w (.cells #[v] 29)).trans (hb.mono (by simp))
    have hs1 := HB.out.size
    have hm0 : (w1.alloc (.cells M 59)).heap[w1.heap.size]? = some (.cells (mat (row0 ss).size ss.length g) 59 (0, 0)) := by rw [← HMM.out]; exact heap_alloc_last w1 _
    have HRA := Lib.hid (rowsL_range hm0)
    have HRL := Lib.hid (infoRows.trans (congrArg some (rowsL_len g).symm))
    obtain ⟨R, hR⟩ : ∃ R, rowsL g = R := ⟨_, rfl⟩
    rw [hR] at HRA HRL HR
    obtain ⟨RA, hRA⟩ : ∃ RA, R.toArray = RA := ⟨_, rfl⟩
    have HRe := Lib.hid hRA
    rw [hRA] at HR
    clear hb hm0 hR hRA
    go_wp2_with (first | (refine wpList_store_new w1 rfl 59 _ _ rfl M rfl rfl 59 zeros HI.out HZ.out HO.out ?_) | (refine wpList_load_mid rfl 57 _ rfl w1.heap.size 2 rfl R _ HRA.out Tryd.underlying57 rfl HRL.out ?_; rw [HRe.out]))
    go_loopw [6, 18] (fun nv iv wr => ∃ i : Nat, i ≤ 16 ∧ iv = .int .i64 i ∧ nv = .int .i64 (rs g i) ∧ Below w1.heap.size w1 wr) (fun _ iv _ => 16 - (intOf iv).toNat)
    case atStart => exact ⟨0, Nat.zero_le _, rfl, rfl, Joins.below_alloc1 _ _⟩
    case round =>
      obtain ⟨i, hi, rfl, rfl, hbel⟩ := hrel
      have HBe := Lib.hid hbel
      have hs := hbel.size
      clear hbel
      by_cases hlt : i < 16
      · have ki : (i : Int) < 16 := by omega
        have hri := HR.out i hlt
        have hci := HC.out i
        have hrs := rs_succ g i
        have hle := HL.out i
        have hbl := bs_le (g i) 16
        have hix := fun w => run_index_rows RA i _ w hlt hri
        obtain ⟨W, hW⟩ : ∃ W, g i = W := ⟨_, rfl⟩
        rw [hW] at hri hix hci hrs hbl
        obtain ⟨q, hq⟩ : ∃ q, bs W 16 = q := ⟨_, rfl⟩
        rw [hq] at hci hrs hbl
        obtain ⟨r, hr⟩ : ∃ r, rs g i = r := ⟨_, rfl⟩
        rw [hr] at hrs hle ⊢
        have HCI := Lib.hid hci
        have HRS := Lib.hid hrs
        have kq : (q : Int) ≤ 16 := by omega
        have kr : (r : Int) ≤ 256 := by omega
        clear hW hq hr hci hrs
        go_wp2_with fail
        refine (HCI.out _).mono ?_
        rintro e w2 ⟨rfl, hb2⟩
        have HB2 := Lib.hid (HBe.out.trans (hb2.mono hs))
        clear hb2
        go_wp2
        go_roundw
        case rel => exact ⟨i + 1, by omega, by go_num, by rw [HRS.out]; go_num, HB2.out⟩
        case measure => simp [intOf]; omega
      · obtain rfl : i = 16 := by omega
        obtain ⟨r, hr⟩ : ∃ r, rs g 16 = r := ⟨_, rfl⟩
        rw [hr] at e1 ⊢
        clear hr
        go_wp2
        go_ret2
        exact ⟨ret_ib e1.out.symm rfl, HB.out.trans (HBe.out.mono hs1)⟩
end Go.Proofs.YthblhibkbcmbaaaDoor
