/- Contracts of single functions, and plain lemmas, on which the exact laws of this seat rest; each holds under the conditions that it states. -/
import Derived.Test.YtabkkpifkkgpeaaDoorLi
import Derived.Test.YtabkkpifkkgpeaaDoorCb
import Derived.Test.YtabkkpifkkgpeaaDoorSc
import Derived.RegionTactic
import Derived.BigRegion
namespace Go.Proofs.YtabkkpifkkgpeaaDoor
set_option linter.unusedVariables false
set_option linter.unusedSimpArgs false
open Go.RowKit

def NoMats (w : World) (e : Ending) (w' : World) : Prop := e = .returned (.tuple #[.agg zeros, .agg zeros, .bool false]) ∧ Below w.heap.size w w'

set_option maxHeartbeats 2000000 in
set_option maxRecDepth 100000 in
theorem matricesOf_no (u v : Value) (ss tt : List ByteArray) (w : World) (hN : ss.length ≤ maxLen) (hz : ∀ s ∈ ss, s.size ≤ maxLen) (hu : Sl w u ss) (hN2 : tt.length ≤ maxLen) (hz2 : ∀ s ∈ tt, s.size ≤ maxLen) (hv : Sl w v tt) (he : ErrLen w) (hno : likeB ss tt = false) :
    Calls Tryd.prog 97 #[.agg #[u], .agg #[v]] w (NoMats w) := by
  obtain ⟨W0, hW0⟩ : ∃ W0, ((((w.alloc (.cells #[u] 42)).alloc (.cells #[v] 42)).alloc (.cells zeros 96)).alloc (.cells zeros 96)) = W0 := ⟨_, rfl⟩
  have b0 : Below w.heap.size w W0 := by
    rw [← hW0]; exact (Joins.below_alloc2 w _ _).trans ((Joins.below_alloc2 _ _ _).mono (by simp; omega))
  have q0 : W0.heap[w.heap.size]? = some (.cells #[u] 42 (0, 0)) := by
    rw [← hW0, Below.heap_alloc _ _ _ (by simp; try omega), Below.heap_alloc _ _ _ (by simp; try omega), Below.heap_alloc _ _ _ (by simp)]; exact heap_alloc_last w _
  have q1 : W0.heap[w.heap.size + 1]? = some (.cells #[v] 42 (0, 0)) := by
    rw [← hW0, Below.heap_alloc _ _ _ (by simp; try omega), Below.heap_alloc _ _ _ (by simp; try omega)]; exact heap_alloc2_new _ _ _
  have q2 : W0.heap[w.heap.size + 1 + 1]? = some (.cells zeros 96 (0, 0)) := by
    rw [← hW0, Below.heap_alloc _ _ _ (by simp)]
    have := heap_alloc_last ((w.alloc (.cells #[u] 42)).alloc (.cells #[v] 42)) (.cells zeros 96)
    simpa using this
  have q3 : W0.heap[w.heap.size + 1 + 1 + 1]? = some (.cells zeros 96 (0, 0)) := by
    have := heap_alloc_last (((w.alloc (.cells #[u] 42)).alloc (.cells #[v] 42)).alloc (.cells zeros 96)) (.cells zeros 96)
    rw [← hW0]; simpa using this
  have c0 : ((((w.alloc (.cells #[u] 42)).alloc (.cells #[v] 42)).alloc (.cells zeros 96)).alloc (.cells zeros 96)).cell? ⟨w.heap.size, 0, none⟩ = some u := by rw [hW0]; exact cell_of_one q0
  have C1 := Lib.hid (matrixOf_any u ss _ hN hz (hu.below b0) (he.below b0))
  rw [← hW0] at C1
  have HC2 : Hid (∀ W, Below w.heap.size w W → Calls Tryd.prog 91 #[.agg #[v]] W (MatOf tt W)) := fun W hb => matrixOf_any v tt W hN2 hz2 (hv.below hb) (he.below hb)
  unfold MatOf at C1 HC2
  have s1 := matC_size ss
  have o1 := matC_one ss
  have m1 := matC_yes (ss := ss)
  have s2 := matC_size tt
  have o2 := matC_one tt
  have m2 := matC_yes (ss := tt)
  obtain ⟨M1, hM1⟩ : ∃ M, matC ss = M := ⟨_, rfl⟩
  obtain ⟨M2, hM2⟩ : ∃ M, matC tt = M := ⟨_, rfl⟩
  rw [hM1] at C1 s1 o1 m1
  rw [hM2] at HC2 s2 o2 m2
  have HI1 : Hid ((Tryd.prog.info? 96).map (·.size) = some M1.size) := by show _ = _; rw [s1]; exact infoM
  have HI2 : Hid ((Tryd.prog.info? 96).map (·.size) = some M2.size) := by show _ = _; rw [s2]; exact infoM
  have HZ1 := Lib.hid (zeros_size.trans s1.symm)
  have HZ2 := Lib.hid (zeros_size.trans s2.symm)
  have HO1 := Lib.hid o1
  have HO2 := Lib.hid o2
  have HM1 := Lib.hid m1
  have HM2 := Lib.hid m2
  have Q1 := Lib.hid q1
  have Q2 := Lib.hid q2
  have Q3 := Lib.hid q3
  have B0 := Lib.hid b0
  have HW0 := Lib.hid hW0
  have HNo := Lib.hid hno
  clear s1 s2 o1 o2 m1 m2 q0 q1 q2 q3 b0 hW0 hu hv he hM1 hM2 hno
  go_enter Tryd.func97, Tryd.ntmps97
  go_wp2_with fail
  refine C1.out.mono ?_
  rintro e w1 ⟨rfl, hb1⟩
  rw [HW0.out] at hb1
  have l0 : w.heap.size + 1 + 1 + 1 < W0.heap.size := (Array.getElem?_eq_some_iff.1 Q3.out).1
  have hba := hb1.trans ((Joins.below_alloc1 w1 (.cells M1 96)).mono hb1.size)
  have P1 := Lib.hid ((hba.block (w.heap.size + 1) (by omega)).trans Q1.out)
  have P2 := Lib.hid ((hba.block (w.heap.size + 1 + 1) (by omega)).trans Q2.out)
  have P3 := Lib.hid ((hba.block (w.heap.size + 1 + 1 + 1) (by omega)).trans Q3.out)
  have A1 : Hid ((w1.alloc (.cells M1 96)).heap[w1.heap.size]? = some (.cells M1 96 (0, 0))) := heap_alloc_last w1 _
  have B1 := Lib.hid (B0.out.trans (hba.mono B0.out.size))
  have l1 : w.heap.size + 1 + 1 + 1 < w1.heap.size := Nat.lt_of_lt_of_le l0 hb1.size
  have c1 : (w1.alloc (.cells M1 96)).cell? ⟨w.heap.size + 1, 0, none⟩ = some v := cell_of_one P1.out
  have C2 := Lib.hid (HC2.out _ B1.out)
  clear hb1 hba c0
  obtain ⟨p1, hp1⟩ : ∃ p, validB ss = p := ⟨_, rfl⟩
  obtain ⟨p2, hp2⟩ : ∃ p, validB tt = p := ⟨_, rfl⟩
  have HP1 := Lib.hid hp1
  have HP2 := Lib.hid hp2
  rw [hp1]
  rw [hp2] at C2
  clear hp1 hp2
  go_wp2_with (refine wpList_store_new w1 rfl 96 _ _ rfl M1 rfl rfl 96 zeros HI1.out HZ1.out HO1.out ?_)
  refine C2.out.mono ?_
  rintro e w2 ⟨rfl, hb2⟩
  have hba := hb2.trans ((Joins.below_alloc1 w2 (.cells M2 96)).mono hb2.size)
  have hsz := B1.out.size
  have hs2 : w1.heap.size + 1 ≤ w2.heap.size := by have := hb2.size; simpa using this
  have R2 := Lib.hid ((hba.block (w.heap.size + 1 + 1) (by simp; omega)).trans P2.out)
  have R3 := Lib.hid ((hba.block (w.heap.size + 1 + 1 + 1) (by simp; omega)).trans P3.out)
  have A2 := Lib.hid ((hba.block w1.heap.size (by simp)).trans A1.out)
  have D2 : Hid ((w2.alloc (.cells M2 96)).heap[w2.heap.size]? = some (.cells M2 96 (0, 0))) := heap_alloc_last w2 _
  have B2 := Lib.hid (B1.out.trans (hba.mono hsz))
  have R3' := Lib.hid ((setRow_other (w2.alloc (.cells M2 96)) (w.heap.size + 1 + 1) (w.heap.size + 1 + 1 + 1) zeros (by omega)).trans R3.out)
  have S2 := Lib.hid (setRow_heap _ _ _ zeros _ _ R2.out)
  have S3 := Lib.hid (setRow_heap _ _ _ zeros _ _ R3'.out)
  have S2' := Lib.hid ((setRow_other _ (w.heap.size + 1 + 1 + 1) (w.heap.size + 1 + 1) zeros (by omega)).trans S2.out)
  have BF := Lib.hid (setRow_below (setRow_below B2.out (g := w.heap.size + 1 + 1) (by omega) zeros) (g := w.heap.size + 1 + 1 + 1) (by omega) zeros)
  clear hb2 hba c1
  cases p1 with
  | false =>
    go_wp2_with (refine wpList_store_new w2 rfl 96 _ _ rfl M2 rfl rfl 96 zeros HI2.out HZ2.out HO2.out ?_; refine Hid.out ?_)
    refine Lib.hid ?_
    go_wp2_with (refine wpList_store_row rfl 96 _ _ rfl (w.heap.size + 1 + 1) zeros rfl rfl 96 zeros R2.out infoM rfl (mcells_one _ _ _) ?_; refine Hid.out ?_)
    refine Lib.hid ?_
    go_wp2_with (refine wpList_store_row rfl 96 _ _ rfl (w.heap.size + 1 + 1 + 1) zeros rfl rfl 96 zeros R3'.out infoM rfl (mcells_one _ _ _) ?_)
    exact bodyPost_ret (results_cell2_tmp rfl _ _ (w.heap.size + 1 + 1) (w.heap.size + 1 + 1 + 1) 96 96 zeros zeros (0, 0) (0, 0) _ rfl S2'.out rfl S3.out Tryd.underlying96 rfl infoM infoM) rfl ⟨rfl, BF.out⟩
  | true =>
    cases p2 with
    | false =>
      go_wp2_with (refine wpList_store_new w2 rfl 96 _ _ rfl M2 rfl rfl 96 zeros HI2.out HZ2.out HO2.out ?_; refine Hid.out ?_)
      refine Lib.hid ?_
      go_wp2_with (refine wpList_store_row rfl 96 _ _ rfl (w.heap.size + 1 + 1) zeros rfl rfl 96 zeros R2.out infoM rfl (mcells_one _ _ _) ?_; refine Hid.out ?_)
      refine Lib.hid ?_
      go_wp2_with (refine wpList_store_row rfl 96 _ _ rfl (w.heap.size + 1 + 1 + 1) zeros rfl rfl 96 zeros R3'.out infoM rfl (mcells_one _ _ _) ?_)
      exact bodyPost_ret (results_cell2_tmp rfl _ _ (w.heap.size + 1 + 1) (w.heap.size + 1 + 1 + 1) 96 96 zeros zeros (0, 0) (0, 0) _ rfl S2'.out rfl S3.out Tryd.underlying96 rfl infoM infoM) rfl ⟨rfl, BF.out⟩
    | true =>
      have hm1 := HM1.out HP1.out
      have hm2 := HM2.out HP2.out
      have ca0 : (w2.alloc (.cells M2 96)).cell? ⟨w1.heap.size, 0, none⟩ = some (.int .i64 (row0 ss).size) := by rw [Joins.cell_of_block A2.out 0, hm1]; rfl
      have ca1 : (w2.alloc (.cells M2 96)).cell? ⟨w1.heap.size, 1, none⟩ = some (.int .i64 ss.length) := by rw [Joins.cell_of_block A2.out 1, hm1]; rfl
      have cb0 : (w2.alloc (.cells M2 96)).cell? ⟨w2.heap.size, 0, none⟩ = some (.int .i64 (row0 tt).size) := by rw [Joins.cell_of_block D2.out 0, hm2]; rfl
      have cb1 : (w2.alloc (.cells M2 96)).cell? ⟨w2.heap.size, 1, none⟩ = some (.int .i64 tt.length) := by rw [Joins.cell_of_block D2.out 1, hm2]; rfl
      have hl := HNo.out
      unfold likeB at hl
      rw [HP1.out, HP2.out] at hl
      by_cases hw : (row0 ss).size = (row0 tt).size
      · have hh : ((ss.length : Int) != (tt.length : Int)) = true := by
          rw [bne_iff_ne]
          intro e
          rw [decide_eq_true hw, decide_eq_true (Int.ofNat_inj.1 e)] at hl
          exact absurd hl (by decide)
        have hw' : (((row0 ss).size : Int) != ((row0 tt).size : Int)) = false := by rw [hw]; simp
        clear hl hm1 hm2 hw
        go_wp2_with (refine wpList_store_new w2 rfl 96 _ _ rfl M2 rfl rfl 96 zeros HI2.out HZ2.out HO2.out ?_; refine Hid.out ?_)
        refine Lib.hid ?_
        go_wp2_with (refine wpList_store_row rfl 96 _ _ rfl (w.heap.size + 1 + 1) zeros rfl rfl 96 zeros R2.out infoM rfl (mcells_one _ _ _) ?_; refine Hid.out ?_)
        refine Lib.hid ?_
        go_wp2_with (refine wpList_store_row rfl 96 _ _ rfl (w.heap.size + 1 + 1 + 1) zeros rfl rfl 96 zeros R3'.out infoM rfl (mcells_one _ _ _) ?_)
        exact bodyPost_ret (results_cell2_tmp rfl _ _ (w.heap.size + 1 + 1) (w.heap.size + 1 + 1 + 1) 96 96 zeros zeros (0, 0) (0, 0) _ rfl S2'.out rfl S3.out Tryd.underlying96 rfl infoM infoM) rfl ⟨rfl, BF.out⟩
      · have hw' : (((row0 ss).size : Int) != ((row0 tt).size : Int)) = true := by rw [bne_iff_ne]; omega
        clear hl hm1 hm2 hw
        go_wp2_with (refine wpList_store_new w2 rfl 96 _ _ rfl M2 rfl rfl 96 zeros HI2.out HZ2.out HO2.out ?_; refine Hid.out ?_)
        refine Lib.hid ?_
        go_wp2_with (refine wpList_store_row rfl 96 _ _ rfl (w.heap.size + 1 + 1) zeros rfl rfl 96 zeros R2.out infoM rfl (mcells_one _ _ _) ?_; refine Hid.out ?_)
        refine Lib.hid ?_
        go_wp2_with (refine wpList_store_row rfl 96 _ _ rfl (w.heap.size + 1 + 1 + 1) zeros rfl rfl 96 zeros R3'.out infoM rfl (mcells_one _ _ _) ?_)
        exact bodyPost_ret (results_cell2_tmp rfl _ _ (w.heap.size + 1 + 1) (w.heap.size + 1 + 1 + 1) 96 96 zeros zeros (0, 0) (0, 0) _ rfl S2'.out rfl S3.out Tryd.underlying96 rfl infoM infoM) rfl ⟨rfl, BF.out⟩
end Go.Proofs.YtabkkpifkkgpeaaDoor

/- Contracts of single functions, and plain lemmas, on which the exact laws of this seat rest; each holds under the conditions that it states. -/
namespace Go.Proofs.YtabkkpifkkgpeaaDoor
set_option linter.unusedVariables false
open Go.RowKit

/-- a number and a bool handed back -/
def SaysIB (n : Int) (ok : Bool) (w : World) (e : Ending) (w' : World) : Prop := e = .returned (.tuple #[.int .i64 n, .bool ok]) ∧ Below w.heap.size w w'
theorem ret_ib {a c : Int} {b d : Bool} (h1 : a = c) (h2 : b = d) : Ending.returned (.tuple #[.int .i64 a, .bool b]) = .returned (.tuple #[.int .i64 c, .bool d]) := by rw [h1, h2]

def cbV (ss : List ByteArray) : Int := if validB ss then ((rs (wordsOf ss) ss.length : Nat) : Int) else 0

set_option maxHeartbeats 2000000 in
set_option maxRecDepth 100000 in
theorem impl_Count (v : Value) (ss : List ByteArray) (w : World) (hN : ss.length ≤ maxLen) (hz : ∀ s ∈ ss, s.size ≤ maxLen) (hv : Sl w v ss) (he : ErrLen w) :
    Calls Tryd.prog 31 #[.agg #[v]] w (SaysIB (cbV ss) (validB ss) w) := by
  have hb0 := Joins.below_alloc1 w (.cells #[v] 42)
  have C := Lib.hid (matrixOf_any v ss (w.alloc (.cells #[v] 42)) hN hz (hv.below hb0) (he.below hb0))
  have hsz := matC_size ss
  have hone := matC_one ss
  unfold MatOf at C
  have hMM : validB ss = true → matC ss = mat (row0 ss).size ss.length (wordsOf ss) := matC_yes
  obtain ⟨M, hM⟩ : ∃ M, matC ss = M := ⟨_, rfl⟩
  rw [hM] at C hsz hone hMM
  have HI : Hid ((Tryd.prog.info? 96).map (·.size) = some M.size) := by show _ = _; rw [hsz]; exact infoM
  have HZ := Lib.hid (zeros_size.trans hsz.symm)
  have HO := Lib.hid hone
  clear hM hsz hone hb0 hv he
  cases hok : validB ss with
  | false =>
    have e1 : Hid (cbV ss = 0) := by show cbV ss = _; unfold cbV; rw [hok]; rfl
    have HOk := Lib.hid hok
    clear hok hMM
    go_enter Tryd.func31, Tryd.ntmps31
    go_wp2_with fail
    refine C.out.mono ?_
    rintro e w1 ⟨rfl, hb⟩
    rw [HOk.out]
    have HB := Lib.hid hb
    clear hb
    go_wp2_with (refine wpList_store_row rfl 96 _ _ rfl w1.heap.size M rfl rfl 96 zeros (heap_alloc_last w1 _) HI.out HZ.out HO.out ?_)
    go_ret2
    have h1 : Below w.heap.size w w1 := (Joins.below_alloc1 w _).trans (HB.out.mono (by simp))
    exact ⟨ret_ib e1.out.symm rfl, setRow_below (h1.alloc h1.size _) h1.size _⟩
  | true =>
    have V := vp_of hok
    have hMM := hMM hok
    have e1 : Hid (cbV ss = ((rs (wordsOf ss) 16 : Nat) : Int)) := by show cbV ss = _; unfold cbV; rw [hok, rs_all V]; rfl
    have HG : Hid (∀ j, wordsOf ss j < 65536) := fun j => words_small V j
    obtain ⟨g, hg⟩ : ∃ g, wordsOf ss = g := ⟨_, rfl⟩
    rw [hg] at hMM e1 HG
    have HL : Hid (∀ y, rs g y ≤ 16 * y) := fun y => rs_le g y
    have HC : Hid (∀ j W, Calls Tryd.prog 100 #[.int .u32 (g j)] W fun e w' => e = .returned (.int .i64 (bs (g j) 16)) ∧ Below W.heap.size W w') := fun j W => onesCount_any (g j) W (HG.out j)
    have HR : Hid (∀ j, j < 16 → (rowsL g).toArray[j]? = some (.int .u32 (g j))) := fun j hj => rowsL_at g j hj
    have HOk := Lib.hid hok
    have HMM := Lib.hid hMM
    clear hok V hMM hg
    go_enter Tryd.func31, Tryd.ntmps31
    go_wp2_with fail
    refine C.out.mono ?_
    rintro e w1 ⟨rfl, hb⟩
    rw [HOk.out]
    have HB : Hid (Below w.heap.size w w1) := (Joins.below_alloc1 w (.cells #[v] 42)).trans (hb.mono (by simp))
    have hs1 := HB.out.size
    have hm0 : (w1.alloc (.cells M 96)).heap[w1.heap.size]? = some (.cells (mat (row0 ss).size ss.length g) 96 (0, 0)) := by rw [← HMM.out]; exact heap_alloc_last w1 _
    have HRA := Lib.hid (rowsL_range hm0)
    have HRL := Lib.hid (infoRows.trans (congrArg some (rowsL_len g).symm))
    obtain ⟨R, hR⟩ : ∃ R, rowsL g = R := ⟨_, rfl⟩
    rw [hR] at HRA HRL HR
    obtain ⟨RA, hRA⟩ : ∃ RA, R.toArray = RA := ⟨_, rfl⟩
    have HRe := Lib.hid hRA
    rw [hRA] at HR
    clear hb hm0 hR hRA
    go_wp2_with (first | (refine wpList_store_new w1 rfl 96 _ _ rfl M rfl rfl 96 zeros HI.out HZ.out HO.out ?_) | (refine wpList_load_mid rfl 94 _ rfl w1.heap.size 2 rfl R _ HRA.out Tryd.underlying94 rfl HRL.out ?_; rw [HRe.out]))
    go_loopw [6, 18] (fun nv iv wr => ∃ i : Nat, i ≤ 16 ∧ iv = .int .i64 i ∧ nv = .int .i64 (rs g i) ∧ Below w1.heap.size w1 wr) (fun _ iv _ => 16 - (intOf iv).toNat)
    case atStart => exact ⟨0, Nat.zero_le _, rfl, rfl, Joins.below_alloc1 _ _⟩
    case round =>
      obtain ⟨i, hi, rfl, rfl, hbel⟩ := hrel
      have HBe := Lib.hid hbel
      have hs := hbel.size
      clear hbel
      by_cases hlt : i < 16
      · have ki : (i : Int) < 16 := by omega
        have hri := HR.out i hlt
        have hci := HC.out i
        have hrs := rs_succ g i
        have hle := HL.out i
        have hbl := bs_le (g i) 16
        have hix := fun w => run_index_rows RA i _ w hlt hri
        obtain ⟨W, hW⟩ : ∃ W, g i = W := ⟨_, rfl⟩
        rw [hW] at hri hix hci hrs hbl
        obtain ⟨q, hq⟩ : ∃ q, bs W 16 = q := ⟨_, rfl⟩
        rw [hq] at hci hrs hbl
        obtain ⟨r, hr⟩ : ∃ r, rs g i = r := ⟨_, rfl⟩
        rw [hr] at hrs hle ⊢
        have HCI := Lib.hid hci
        have HRS := Lib.hid hrs
        have kq : (q : Int) ≤ 16 := by omega
        have kr : (r : Int) ≤ 256 := by omega
        clear hW hq hr hci hrs
        go_wp2_with fail
        refine (HCI.out _).mono ?_
        rintro e w2 ⟨rfl, hb2⟩
        have HB2 := Lib.hid (HBe.out.trans (hb2.mono hs))
        clear hb2
        go_wp2
        go_roundw
        case rel => exact ⟨i + 1, by omega, by go_num, by rw [HRS.out]; go_num, HB2.out⟩
        case measure => simp [intOf]; omega
      · obtain rfl : i = 16 := by omega
        obtain ⟨r, hr⟩ : ∃ r, rs g 16 = r := ⟨_, rfl⟩
        rw [hr] at e1 ⊢
        clear hr
        go_wp2
        go_ret2
        exact ⟨ret_ib e1.out.symm rfl, HB.out.trans (HBe.out.mono hs1)⟩
end Go.Proofs.YtabkkpifkkgpeaaDoor

/- Contracts of single functions, and plain lemmas, on which the exact laws of this seat rest; each holds under the conditions that it states. -/
namespace Go.Proofs.YtabkkpifkkgpeaaDoor
set_option linter.unusedVariables false
set_option linter.unusedSimpArgs false
open Go.RowKit

/-- the bits of one word that are not in the other one -/
def anW (W V : Nat) : Nat := W &&& (4294967295 - V)
theorem an_bits (W V : Nat) (hW : W < 4294967296) (hV : V < 4294967296) : bits .andNot .u32 (W : Int) (V : Int) = ((anW W V : Nat) : Int) := by
  rw [u32_andNot_nat W V hW hV]; rfl
theorem an_bit (W V x : Nat) (hV : V < 4294967296) (hx : x < 32) : (anW W V).testBit x = (W.testBit x && !V.testBit x) := by
  unfold anW
  rw [Nat.testBit_and]
  congr 1
  rw [show 4294967295 - V = 2 ^ 32 - (V + 1) from by omega, Nat.testBit_two_pow_sub_succ (by omega), decide_eq_true hx, Bool.true_and]

theorem sub_yes {ss tt : List ByteArray} (V : VP ss) (V2 : VP tt) (hw : (row0 ss).size = (row0 tt).size) (hh : ss.length = tt.length) (h : ∀ j, j < 16 → anW (wordsOf ss j) (wordsOf tt j) = 0) :
    subB (pixL ss (row0 ss).size ((row0 ss).size * ss.length)) (pixL tt (row0 ss).size ((row0 ss).size * ss.length)) = true := by
  refine subB_yes fun i hi => ?_
  rw [pixL_len] at hi
  have hw1 := V.w1
  have hx : i % (row0 ss).size < (row0 ss).size := Nat.mod_lt _ (by omega)
  have hy : i / (row0 ss).size < ss.length := Nat.div_lt_of_lt_mul hi
  have e1 : (pixL ss (row0 ss).size ((row0 ss).size * ss.length)).getD i false = pixF ss (i / (row0 ss).size) (i % (row0 ss).size) := by simp [pixL, List.getD, hi]
  have e2 : (pixL tt (row0 ss).size ((row0 ss).size * ss.length)).getD i false = pixF tt (i / (row0 ss).size) (i % (row0 ss).size) := by simp [pixL, List.getD, hi]
  rw [e1, e2, ← words_at V _ _ hy hx, ← words_at V2 _ _ (by omega) (by omega)]
  have := h (i / (row0 ss).size) (by have := V.n16; omega)
  have hb := an_bit (wordsOf ss (i / (row0 ss).size)) (wordsOf tt (i / (row0 ss).size)) (i % (row0 ss).size) (words_lt V2 _) (by have := V.w16; omega)
  rw [this, Nat.zero_testBit] at hb
  intro ht
  rw [ht] at hb
  simpa using hb.symm

theorem sub_no {ss tt : List ByteArray} (V : VP ss) (V2 : VP tt) (hw : (row0 ss).size = (row0 tt).size) (hh : ss.length = tt.length) {j : Nat} (h : anW (wordsOf ss j) (wordsOf tt j) ≠ 0) :
    subB (pixL ss (row0 ss).size ((row0 ss).size * ss.length)) (pixL tt (row0 ss).size ((row0 ss).size * ss.length)) = false := by
  obtain ⟨x, hx⟩ : ∃ x, (anW (wordsOf ss j) (wordsOf tt j)).testBit x = true := by
    by_cases hc : ∃ x, (anW (wordsOf ss j) (wordsOf tt j)).testBit x = true
    · exact hc
    · exfalso
      refine h (Nat.eq_of_testBit_eq fun x => ?_)
      rw [Nat.zero_testBit]
      cases hb : (anW (wordsOf ss j) (wordsOf tt j)).testBit x with
      | false => rfl
      | true => exact absurd ⟨x, hb⟩ hc
  have hs : (wordsOf ss j).testBit x = true := by
    unfold anW at hx
    rw [Nat.testBit_and] at hx
    exact (Bool.and_eq_true_iff.1 hx).1
  have hj : j < ss.length := by
    by_cases hc : j < ss.length
    · exact hc
    · unfold wordsOf at hs
      rw [if_neg hc, Nat.zero_testBit] at hs
      exact absurd hs (by decide)
  have hxw : x < (row0 ss).size := by
    by_cases hc : x < (row0 ss).size
    · exact hc
    · have h1 := words_lt_pow V j
      have h2 : 2 ^ (row0 ss).size ≤ 2 ^ x := Nat.pow_le_pow_right (by omega) (by omega)
      rw [Nat.testBit_lt_two_pow (by omega)] at hs
      exact absurd hs (by decide)
  have hb := an_bit (wordsOf ss j) (wordsOf tt j) x (words_lt V2 _) (by have := V.w16; omega)
  rw [hx, hs, Bool.true_and] at hb
  have ht : (wordsOf tt j).testBit x = false := by simpa using hb.symm
  have h3 : (j + 1) * (row0 ss).size ≤ ss.length * (row0 ss).size := Nat.mul_le_mul_right _ hj
  rw [Nat.add_mul, Nat.one_mul, Nat.mul_comm ss.length] at h3
  refine subB_no (i := j * (row0 ss).size + x) (by rw [pixL_len]; omega) ?_ ?_
  · rw [pixL_at ss _ _ j x hj hxw, ← words_at V _ _ hj hxw]; exact hs
  · rw [pixL_at tt _ _ j x hj hxw, ← words_at V2 _ _ (by omega) (by omega)]; exact ht

set_option maxHeartbeats 2000000 in
set_option maxRecDepth 100000 in
theorem isInside_any (a b a' b' : Nat) (g k : Nat → Nat) (r : Bool) (w : World) (HA : ∀ j, bits .andNot .u32 ((g j : Nat) : Int) ((k j : Nat) : Int) = ((anW (g j) (k j) : Nat) : Int)) (HY0 : (∀ j, j < 16 → anW (g j) (k j) = 0) → r = true) (HNo0 : ∀ j, anW (g j) (k j) ≠ 0 → r = false) :
    Calls Tryd.prog 102 #[.agg (mat a b g), .agg (mat a' b' k)] w (SaysB r w) := by
  have HA := Lib.hid HA
  have HY := Lib.hid HY0
  have HNo := Lib.hid HNo0
  have HR : Hid (∀ j, j < 16 → (rowsL g).toArray[j]? = some (.int .u32 (g j))) := fun j hj => rowsL_at g j hj
  have hm1 : ((w.alloc (.cells (mat a b g) 96)).alloc (.cells (mat a' b' k) 96)).heap[w.heap.size]? = some (.cells (mat a b g) 96 (0, 0)) := by
    rw [Below.heap_alloc _ _ _ (by simp)]; exact heap_alloc_last w _
  have hm2 : ((w.alloc (.cells (mat a b g) 96)).alloc (.cells (mat a' b' k) 96)).heap[w.heap.size + 1]? = some (.cells (mat a' b' k) 96 (0, 0)) := heap_alloc2_new _ _ _
  have HRA := Lib.hid (rowsL_range hm1)
  have HKC : Hid (∀ i, i < 16 → ((w.alloc (.cells (mat a b g) 96)).alloc (.cells (mat a' b' k) 96)).cell? ⟨w.heap.size + 1, 2 + i, none⟩ = some (.int .u32 (k i))) := fun i hi => by
    rw [Joins.cell_of_block hm2 (2 + i)]; exact mcells_word _ _ _ i hi
  have HRL := Lib.hid (infoRows.trans (congrArg some (rowsL_len g).symm))
  obtain ⟨M1, hM1⟩ : ∃ M, mat a b g = M := ⟨_, rfl⟩
  obtain ⟨M2, hM2⟩ : ∃ M, mat a' b' k = M := ⟨_, rfl⟩
  obtain ⟨R, hR⟩ : ∃ R, rowsL g = R := ⟨_, rfl⟩
  rw [hR] at HRA HRL HR
  rw [hM1, hM2] at HRA HKC ⊢
  obtain ⟨RA, hRA⟩ : ∃ RA, R.toArray = RA := ⟨_, rfl⟩
  have HRe := Lib.hid hRA
  rw [hRA] at HR
  clear hm1 hm2 hR hRA hM1 hM2 HY0 HNo0
  go_enter Tryd.func102, Tryd.ntmps102
  go_wp2_with (refine wpList_load_mid rfl 94 _ rfl w.heap.size 2 rfl R _ HRA.out Tryd.underlying94 rfl HRL.out ?_; rw [HRe.out])
  go_loop [9] (fun iv => ∃ i : Nat, i ≤ 16 ∧ iv = .int .i64 i ∧ Hid (∀ j, j < i → anW (g j) (k j) = 0)) (fun iv => 16 - (intOf iv).toNat)
  case atStart => exact ⟨0, Nat.zero_le _, rfl, fun j h => by omega⟩
  case round =>
    obtain ⟨i, hi, rfl, H⟩ := hrel
    by_cases hlt : i < 16
    · have ki : (i : Int) < 16 := by omega
      have hri := HR.out i hlt
      have hix := fun w => run_index_rows RA i _ w hlt hri
      have hki := HKC.out i hlt
      have hai := HA.out i
      by_cases hz0 : anW (g i) (k i) = 0
      · rw [hz0] at hai
        have hz1 : ((((0 : Nat) : Int)) != 0) = false := rfl
        have HZ0 := Lib.hid hz0
        obtain ⟨X, hX⟩ : ∃ X, g i = X := ⟨_, rfl⟩
        obtain ⟨Y, hY⟩ : ∃ Y, k i = Y := ⟨_, rfl⟩
        rw [hX] at hri hix hai
        rw [hY] at hki hai
        clear hX hY hz0
        go_wp2
        go_round
        case rel => exact ⟨i + 1, by omega, by go_num, fun j hj => by
          by_cases e : j = i
          · subst e; exact HZ0.out
          · exact H.out j (by omega)⟩
        case measure => simp [intOf]; omega
      · have hno := HNo.out i hz0
        have HNn := Lib.hid hno
        obtain ⟨Z, hZ⟩ : ∃ Z, anW (g i) (k i) = Z := ⟨_, rfl⟩
        rw [hZ] at hai hz0
        have hz1 : (((Z : Nat) : Int) != 0) = true := by rw [bne_iff_ne]; omega
        obtain ⟨X, hX⟩ : ∃ X, g i = X := ⟨_, rfl⟩
        obtain ⟨Y, hY⟩ : ∃ Y, k i = Y := ⟨_, rfl⟩
        rw [hX] at hri hix hai
        rw [hY] at hki hai
        clear hX hY hZ hno hz0
        go_wp2
        go_ret
        exact ⟨ret_b (a := false) HNn.out.symm, Joins.below_alloc2 w _ _⟩
    · obtain rfl : i = 16 := by omega
      have hyes := HY.out (fun j hj => H.out j hj)
      have HYn := Lib.hid hyes
      clear hyes
      go_wp2
      go_ret
      exact ⟨ret_b (a := true) HYn.out.symm, Joins.below_alloc2 w _ _⟩

set_option maxHeartbeats 2000000 in
set_option maxRecDepth 100000 in
theorem impl_Inside (u v : Value) (ss tt : List ByteArray) (w : World) (hN : ss.length ≤ maxLen) (hz : ∀ s ∈ ss, s.size ≤ maxLen) (hu : Sl w u ss) (hN2 : tt.length ≤ maxLen) (hz2 : ∀ s ∈ tt, s.size ≤ maxLen) (hv : Sl w v tt) (he : ErrLen w) :
    Calls Tryd.prog 34 #[.agg #[u], .agg #[v]] w (SaysB (insideP ss tt) w) := by
  have hb0 : Below w.heap.size w ((w.alloc (.cells #[u] 42)).alloc (.cells #[v] 42)) := Joins.below_alloc2 w _ _
  have hl1 : ((w.alloc (.cells #[u] 42)).alloc (.cells #[v] 42)).heap[w.heap.size]? = some (.cells #[u] 42 (0, 0)) := by
    rw [Below.heap_alloc _ _ _ (by simp)]; exact heap_alloc_last w _
  have cu : ((w.alloc (.cells #[u] 42)).alloc (.cells #[v] 42)).cell? ⟨w.heap.size, 0, none⟩ = some u := cell_of_one hl1
  have cv : ((w.alloc (.cells #[u] 42)).alloc (.cells #[v] 42)).cell? ⟨w.heap.size + 1, 0, none⟩ = some v := cell_of_one (heap_alloc2_new _ _ _)
  cases hok : likeB ss tt with
  | false =>
    have C := Lib.hid (matricesOf_no u v ss tt _ hN hz (hu.below hb0) hN2 hz2 (hv.below hb0) (he.below hb0) hok)
    have e : Hid (insideP ss tt = false) := by show insideP ss tt = _; unfold insideP; rw [hok]; rfl
    unfold NoMats at C
    clear hok hl1 hu hv hb0 he
    go_enter Tryd.func34, Tryd.ntmps34
    go_wp2_with fail
    refine C.out.mono ?_
    rintro e w1 ⟨rfl, hb1⟩
    have HB : Hid (Below w.heap.size w w1) := (Joins.below_alloc2 w (.cells #[u] 42) (.cells #[v] 42)).trans (hb1.mono (by simp; omega))
    clear hb1 cu cv
    go_wp2_with (refine wpList_store_under w1 (.cells zeros 96) rfl 96 _ _ rfl zeros rfl rfl 96 zeros infoM rfl (mcells_one _ _ _) ?_; refine Hid.out ?_)
    refine Lib.hid ?_
    go_wp2_with (refine wpList_store_new2 w1 (.cells zeros 96) rfl 96 _ _ rfl zeros rfl rfl 96 zeros infoM rfl (mcells_one _ _ _) ?_)
    go_ret
    exact ⟨ret_b (a := false) e.out.symm, HB.out.trans ((Joins.below_alloc2 w1 _ _).mono HB.out.size)⟩
  | true =>
    have C := Lib.hid (matricesOf_yes u v ss tt _ hN hz (hu.below hb0) hN2 hz2 (hv.below hb0) (he.below hb0) hok)
    have h4 := hok
    unfold likeB at h4
    simp only [Bool.and_eq_true, decide_eq_true_eq] at h4
    obtain ⟨⟨⟨v1, v2⟩, e1⟩, e2⟩ := h4
    have V1 := vp_of v1
    have V2 := vp_of v2
    have hins : insideP ss tt = subB (pixL ss (row0 ss).size ((row0 ss).size * ss.length)) (pixL tt (row0 ss).size ((row0 ss).size * ss.length)) := by unfold insideP; rw [hok, Bool.true_and]
    have HY : Hid ((∀ j, j < 16 → anW (wordsOf ss j) (wordsOf tt j) = 0) → insideP ss tt = true) := fun h => by rw [hins]; exact sub_yes V1 V2 e1 e2 h
    have HNo : Hid (∀ j, anW (wordsOf ss j) (wordsOf tt j) ≠ 0 → insideP ss tt = false) := fun j h => by rw [hins]; exact sub_no V1 V2 e1 e2 h
    have HA : Hid (∀ j, bits .andNot .u32 ((wordsOf ss j : Nat) : Int) ((wordsOf tt j : Nat) : Int) = ((anW (wordsOf ss j) (wordsOf tt j) : Nat) : Int)) := fun j => an_bits _ _ (words_lt V1 j) (words_lt V2 j)
    have CI : Hid (∀ W, Calls Tryd.prog 102 #[.agg (matC ss), .agg (matC tt)] W (SaysB (insideP ss tt) W)) := fun W => by
      rw [matC_yes v1, matC_yes v2]
      exact isInside_any _ _ _ _ _ _ _ W HA.out HY.out HNo.out
    have s1 := matC_size ss
    have o1 := matC_one ss
    have s2 := matC_size tt
    have o2 := matC_one tt
    obtain ⟨M1, hM1⟩ : ∃ M, matC ss = M := ⟨_, rfl⟩
    obtain ⟨M2, hM2⟩ : ∃ M, matC tt = M := ⟨_, rfl⟩
    rw [hM1] at C s1 o1 CI
    rw [hM2] at C s2 o2 CI
    have HI1 : Hid ((Tryd.prog.info? 96).map (·.size) = some M1.size) := by show _ = _; rw [s1]; exact infoM
    have HI2 : Hid ((Tryd.prog.info? 96).map (·.size) = some M2.size) := by show _ = _; rw [s2]; exact infoM
    have HZ1 := Lib.hid (zeros_size.trans s1.symm)
    have HZ2 := Lib.hid (zeros_size.trans s2.symm)
    have HO1 := Lib.hid o1
    have HO2 := Lib.hid o2
    obtain ⟨r, hr⟩ : ∃ r, insideP ss tt = r := ⟨_, rfl⟩
    rw [hr] at CI ⊢
    clear HY HNo HA s1 s2 o1 o2 hM1 hM2 hok hins hl1 hu hv hb0 he v1 v2 e1 e2 V1 V2 hr
    go_enter Tryd.func34, Tryd.ntmps34
    go_wp2_with fail
    refine C.out.mono ?_
    rintro e w1 ⟨rfl, hb1⟩
    have HB : Hid (Below w.heap.size w w1) := (Joins.below_alloc2 w (.cells #[u] 42) (.cells #[v] 42)).trans (hb1.mono (by simp; omega))
    have HB2 : Hid (Below w.heap.size w ((w1.alloc (.cells M1 96)).alloc (.cells M2 96))) := HB.out.trans ((Joins.below_alloc2 w1 _ _).mono HB.out.size)
    have hm1 : Hid (((w1.alloc (.cells M1 96)).alloc (.cells M2 96)).heap[w1.heap.size]? = some (.cells M1 96 (0, 0))) := by
      show _ = _
      rw [Below.heap_alloc _ _ _ (by simp)]; exact heap_alloc_last w1 _
    have hm2 : Hid (((w1.alloc (.cells M1 96)).alloc (.cells M2 96)).heap[w1.heap.size + 1]? = some (.cells M2 96 (0, 0))) := heap_alloc2_new _ _ _
    clear hb1 cu cv
    go_wp2_with (refine wpList_store_under w1 (.cells zeros 96) rfl 96 _ _ rfl M1 rfl rfl 96 zeros HI1.out HZ1.out HO1.out ?_; refine Hid.out ?_)
    refine Lib.hid ?_
    go_wp2_with (refine wpList_store_new2 w1 (.cells M1 96) rfl 96 _ _ rfl M2 rfl rfl 96 zeros HI2.out HZ2.out HO2.out ?_; refine Hid.out ?_)
    refine Lib.hid ?_
    go_wp2_with (refine wpList_load_row_g rfl 96 _ rfl w1.heap.size rfl 96 M1 (0, 0) _ hm1.out Tryd.underlying96 rfl HI1.out ?_; refine Hid.out ?_)
    refine Lib.hid ?_
    go_wp2_with (refine wpList_load_row_g rfl 96 _ rfl (w1.heap.size + 1) rfl 96 M2 (0, 0) _ hm2.out Tryd.underlying96 rfl HI2.out ?_; refine Hid.out ?_)
    refine Lib.hid ?_
    go_wp2_with fail
    refine (CI.out _).mono ?_
    rintro e w2 ⟨rfl, hb2⟩
    have HB3 := Lib.hid (HB2.out.trans (hb2.mono HB2.out.size))
    clear hb2
    go_wp2
    go_ret
    exact ⟨rfl, HB3.out⟩
end Go.Proofs.YtabkkpifkkgpeaaDoor

/- Contracts of single functions, and plain lemmas, on which the exact laws of this seat rest; each holds under the conditions that it states. -/
namespace Go.Proofs.YtabkkpifkkgpeaaDoor
set_option linter.unusedVariables false
set_option linter.unusedSimpArgs false
open Go.RowKit

/-- the first i of a list are joined with another list's -/
def mixJ (f : Bool → Bool → Bool) (l m : List Bool) (i : Nat) : List Bool := (List.range l.length).map fun j => if j < i then f (l.getD j false) (m.getD j false) else l.getD j false
theorem mixJ_len (f : Bool → Bool → Bool) (l m : List Bool) (i : Nat) : (mixJ f l m i).length = l.length := by simp [mixJ]
theorem mixJ_at (f : Bool → Bool → Bool) (l m : List Bool) (i j : Nat) (hj : j < l.length) : (mixJ f l m i)[j]? = some (if j < i then f (l.getD j false) (m.getD j false) else l.getD j false) := by
  simp [mixJ, hj]
theorem mixJ_zero (f : Bool → Bool → Bool) (l m : List Bool) : mixJ f l m 0 = l := by
  apply List.ext_getElem?
  intro j
  by_cases hj : j < l.length
  · rw [mixJ_at f l m 0 j hj, if_neg (by omega), List.getD_eq_getElem?_getD, List.getElem?_eq_getElem hj]; rfl
  · rw [List.getElem?_eq_none (by rw [mixJ_len]; omega), List.getElem?_eq_none (by omega)]
theorem mixJ_set (f : Bool → Bool → Bool) (l m : List Bool) (i : Nat) (hi : i < l.length) : (mixJ f l m i).set i (f (l.getD i false) (m.getD i false)) = mixJ f l m (i + 1) := by
  apply List.ext_getElem?
  intro j
  by_cases hj : j < l.length
  · rw [mixJ_at f l m (i + 1) j hj]
    by_cases h : i = j
    · subst h
      rw [List.getElem?_set_self (by rw [mixJ_len]; exact hj), if_pos (by omega)]
    · rw [List.getElem?_set_ne h, mixJ_at f l m i j hj]
      by_cases h2 : j < i
      · rw [if_pos h2, if_pos (by omega)]
      · rw [if_neg h2, if_neg (by omega)]
  · rw [List.getElem?_eq_none (by rw [List.length_set, mixJ_len]; omega), List.getElem?_eq_none (by rw [mixJ_len]; omega)]
theorem mixJ_all (f : Bool → Bool → Bool) (l m : List Bool) (j : Nat) (hj : j < l.length) : (mixJ f l m l.length).getD j false = f (l.getD j false) (m.getD j false) := by
  rw [List.getD_eq_getElem?_getD, mixJ_at f l m _ j hj, if_pos hj]; rfl

def joF (f : Bool → Bool → Bool) (ss tt : List ByteArray) (y x : Nat) : Bool := f (pixF ss y x) (pixF tt y x)
theorem jo_at (f : Bool → Bool → Bool) (ss tt : List ByteArray) (wd h y x : Nat) (hy : y < h) (hx : x < wd) : (mixJ f (pixL ss wd (wd * h)) (pixL tt wd (wd * h)) (wd * h)).getD (y * wd + x) false = joF f ss tt y x := by
  have h3 : (y + 1) * wd ≤ h * wd := Nat.mul_le_mul_right _ hy
  rw [Nat.add_mul, Nat.one_mul, Nat.mul_comm h wd] at h3
  have := mixJ_all f (pixL ss wd (wd * h)) (pixL tt wd (wd * h)) (y * wd + x) (by rw [pixL_len]; omega)
  rw [pixL_len, pixL_at ss wd h y x hy hx, pixL_at tt wd h y x hy hx] at this
  exact this
def jF0 (p q : Bool) : Bool := (p && q)
def jW0 (W V : Nat) : Nat := W &&& V
def jF1 (p q : Bool) : Bool := (p || q)
def jW1 (W V : Nat) : Nat := W ||| V
def jF2 (p q : Bool) : Bool := (p != q)
def jW2 (W V : Nat) : Nat := W ^^^ V
def jF3 (p q : Bool) : Bool := (p && !q)
def jW3 (W V : Nat) : Nat := anW W V
theorem jB0 (W V x : Nat) (hV : V < 4294967296) (hx : x < 32) : (jW0 W V).testBit x = jF0 (W.testBit x) (V.testBit x) := by unfold jW0 jF0; rw [Nat.testBit_and]
theorem jB1 (W V x : Nat) (hV : V < 4294967296) (hx : x < 32) : (jW1 W V).testBit x = jF1 (W.testBit x) (V.testBit x) := by unfold jW1 jF1; rw [Nat.testBit_or]
theorem jB2 (W V x : Nat) (hV : V < 4294967296) (hx : x < 32) : (jW2 W V).testBit x = jF2 (W.testBit x) (V.testBit x) := by unfold jW2 jF2; rw [Nat.testBit_xor]
theorem jB3 (W V x : Nat) (hV : V < 4294967296) (hx : x < 32) : (jW3 W V).testBit x = jF3 (W.testBit x) (V.testBit x) := by unfold jW3 jF3; rw [an_bit W V x hV hx]
theorem jL0 (W V : Nat) (hW : W < 4294967296) (hV : V < 4294967296) : jW0 W V < 4294967296 := Nat.lt_of_le_of_lt Nat.and_le_left hW
theorem jL1 (W V : Nat) (hW : W < 4294967296) (hV : V < 4294967296) : jW1 W V < 4294967296 := Nat.or_lt_two_pow (n := 32) hW hV
theorem jL2 (W V : Nat) (hW : W < 4294967296) (hV : V < 4294967296) : jW2 W V < 4294967296 := Nat.xor_lt_two_pow (n := 32) hW hV
theorem jL3 (W V : Nat) (hW : W < 4294967296) (hV : V < 4294967296) : jW3 W V < 4294967296 := Nat.lt_of_le_of_lt Nat.and_le_left hW
theorem jO0 (W V : Nat) (hW : W < 4294967296) (hV : V < 4294967296) : bits .and .u32 (W : Int) (V : Int) = ((jW0 W V : Nat) : Int) := u32_and_nat W V hW hV
theorem jO1 (W V : Nat) (hW : W < 4294967296) (hV : V < 4294967296) : bits .or .u32 (W : Int) (V : Int) = ((jW1 W V : Nat) : Int) := u32_or_nat W V hW hV
theorem jO2 (W V : Nat) (hW : W < 4294967296) (hV : V < 4294967296) : bits .xor .u32 (W : Int) (V : Int) = ((jW2 W V : Nat) : Int) := u32_xor_nat W V hW hV
theorem jO3 (W V : Nat) (hW : W < 4294967296) (hV : V < 4294967296) : bits .andNot .u32 (W : Int) (V : Int) = ((jW3 W V : Nat) : Int) := an_bits W V hW hV

set_option maxHeartbeats 400000 in
theorem join_0 (W V : Nat) (w : World) (hW : W < 4294967296) (hV : V < 4294967296) : Calls Tryd.prog 85 #[.int .i64 0, .int .u32 W, .int .u32 V] w fun e w' => e = .returned (.int .u32 (jW0 W V)) ∧ w = w' := by
  have k1 := jO0 W V hW hV
  obtain ⟨z, hz⟩ : ∃ z, jW0 W V = z := ⟨_, rfl⟩
  rw [hz] at k1 ⊢
  clear hW hV hz
  go_enter Tryd.func85, Tryd.ntmps85
  go_wp2
  go_ret
  exact ⟨rfl, rfl⟩

set_option maxHeartbeats 400000 in
theorem join_1 (W V : Nat) (w : World) (hW : W < 4294967296) (hV : V < 4294967296) : Calls Tryd.prog 85 #[.int .i64 1, .int .u32 W, .int .u32 V] w fun e w' => e = .returned (.int .u32 (jW1 W V)) ∧ w = w' := by
  have k1 := jO1 W V hW hV
  obtain ⟨z, hz⟩ : ∃ z, jW1 W V = z := ⟨_, rfl⟩
  rw [hz] at k1 ⊢
  clear hW hV hz
  go_enter Tryd.func85, Tryd.ntmps85
  go_wp2
  go_ret
  exact ⟨rfl, rfl⟩

set_option maxHeartbeats 400000 in
theorem join_2 (W V : Nat) (w : World) (hW : W < 4294967296) (hV : V < 4294967296) : Calls Tryd.prog 85 #[.int .i64 2, .int .u32 W, .int .u32 V] w fun e w' => e = .returned (.int .u32 (jW2 W V)) ∧ w = w' := by
  have k1 := jO2 W V hW hV
  obtain ⟨z, hz⟩ : ∃ z, jW2 W V = z := ⟨_, rfl⟩
  rw [hz] at k1 ⊢
  clear hW hV hz
  go_enter Tryd.func85, Tryd.ntmps85
  go_wp2
  go_ret
  exact ⟨rfl, rfl⟩

set_option maxHeartbeats 400000 in
theorem join_3 (W V : Nat) (w : World) (hW : W < 4294967296) (hV : V < 4294967296) : Calls Tryd.prog 85 #[.int .i64 3, .int .u32 W, .int .u32 V] w fun e w' => e = .returned (.int .u32 (jW3 W V)) ∧ w = w' := by
  have k1 := jO3 W V hW hV
  obtain ⟨z, hz⟩ : ∃ z, jW3 W V = z := ⟨_, rfl⟩
  rw [hz] at k1 ⊢
  clear hW hV hz
  go_enter Tryd.func85, Tryd.ntmps85
  go_wp2
  go_ret
  exact ⟨rfl, rfl⟩
end Go.Proofs.YtabkkpifkkgpeaaDoor
