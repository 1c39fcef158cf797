/- Contracts of single functions, and plain lemmas, on which the exact laws of this seat rest; each holds under the conditions that it states. -/
import Derived.Test.YthoffbibaimjlaaDoorMq
namespace Go.Proofs.YthoffbibaimjlaaDoor
set_option linter.unusedVariables false
set_option linter.unusedSimpArgs false
open Go.RowKit

def NoMats (w : World) (e : Ending) (w' : World) : Prop := e = .returned (.tuple #[.agg zeros, .agg zeros, .bool false]) ∧ Below w.heap.size w w'

set_option maxHeartbeats 2000000 in
set_option maxRecDepth 100000 in
theorem matricesOf_no (u v : Value) (ss tt : List ByteArray) (w : World) (hN : ss.length ≤ maxLen) (hz : ∀ s ∈ ss, s.size ≤ maxLen) (hu : Sl w u ss) (hN2 : tt.length ≤ maxLen) (hz2 : ∀ s ∈ tt, s.size ≤ maxLen) (hv : Sl w v tt) (he : ErrLen w) (hno : likeB ss tt = false) :
    Calls Tryd.prog 20 #[.agg #[u], .agg #[v]] w (NoMats w) := by
  obtain ⟨W0, hW0⟩ : ∃ W0, ((((w.alloc (.cells #[u] 27)).alloc (.cells #[v] 27)).alloc (.cells zeros 44)).alloc (.cells zeros 44)) = W0 := ⟨_, rfl⟩
  have b0 : Below w.heap.size w W0 := by
    rw [← hW0]; exact (Joins.below_alloc2 w _ _).trans ((Joins.below_alloc2 _ _ _).mono (by simp; omega))
  have q0 : W0.heap[w.heap.size]? = some (.cells #[u] 27 (0, 0)) := by
    rw [← hW0, Below.heap_alloc _ _ _ (by simp; try omega), Below.heap_alloc _ _ _ (by simp; try omega), Below.heap_alloc _ _ _ (by simp)]; exact heap_alloc_last w _
  have q1 : W0.heap[w.heap.size + 1]? = some (.cells #[v] 27 (0, 0)) := by
    rw [← hW0, Below.heap_alloc _ _ _ (by simp; try omega), Below.heap_alloc _ _ _ (by simp; try omega)]; exact heap_alloc2_new _ _ _
  have q2 : W0.heap[w.heap.size + 1 + 1]? = some (.cells zeros 44 (0, 0)) := by
    rw [← hW0, Below.heap_alloc _ _ _ (by simp)]
    have := heap_alloc_last ((w.alloc (.cells #[u] 27)).alloc (.cells #[v] 27)) (.cells zeros 44)
    simpa using this
  have q3 : W0.heap[w.heap.size + 1 + 1 + 1]? = some (.cells zeros 44 (0, 0)) := by
    have := heap_alloc_last (((w.alloc (.cells #[u] 27)).alloc (.cells #[v] 27)).alloc (.cells zeros 44)) (.cells zeros 44)
    rw [← hW0]; simpa using this
  have c0 : ((((w.alloc (.cells #[u] 27)).alloc (.cells #[v] 27)).alloc (.cells zeros 44)).alloc (.cells zeros 44)).cell? ⟨w.heap.size, 0, none⟩ = some u := by rw [hW0]; exact cell_of_one q0
  have C1 := Lib.hid (matrixOf_any u ss _ hN hz (hu.below b0) (he.below b0))
  rw [← hW0] at C1
  have HC2 : Hid (∀ W, Below w.heap.size w W → Calls Tryd.prog 25 #[.agg #[v]] W (MatOf tt W)) := fun W hb => matrixOf_any v tt W hN2 hz2 (hv.below hb) (he.below hb)
  unfold MatOf at C1 HC2
  have s1 := matC_size ss
  have o1 := matC_one ss
  have m1 := matC_yes (ss := ss)
  have s2 := matC_size tt
  have o2 := matC_one tt
  have m2 := matC_yes (ss := tt)
  obtain ⟨M1, hM1⟩ : ∃ M, matC ss = M := ⟨_, rfl⟩
  obtain ⟨M2, hM2⟩ : ∃ M, matC tt = M := ⟨_, rfl⟩
  rw [hM1] at C1 s1 o1 m1
  rw [hM2] at HC2 s2 o2 m2
  have HI1 : Hid ((Tryd.prog.info? 44).map (·.size) = some M1.size) := by show _ = _; rw [s1]; exact infoM
  have HI2 : Hid ((Tryd.prog.info? 44).map (·.size) = some M2.size) := by show _ = _; rw [s2]; exact infoM
  have HZ1 := Lib.hid (zeros_size.trans s1.symm)
  have HZ2 := Lib.hid (zeros_size.trans s2.symm)
  have HO1 := Lib.hid o1
  have HO2 := Lib.hid o2
  have HM1 := Lib.hid m1
  have HM2 := Lib.hid m2
  have Q1 := Lib.hid q1
  have Q2 := Lib.hid q2
  have Q3 := Lib.hid q3
  have B0 := Lib.hid b0
  have HW0 := Lib.hid hW0
  have HNo := Lib.hid hno
  clear s1 s2 o1 o2 m1 m2 q0 q1 q2 q3 b0 hW0 hu hv he hM1 hM2 hno
  go_enter Tryd.func20, Tryd.ntmps20
  go_wp2_with fail
  refine C1.out.mono ?_
  rintro e w1 ⟨rfl, hb1⟩
  rw [HW0.out] at hb1
  have l0 : w.heap.size + 1 + 1 + 1 < W0.heap.size := (Array.getElem?_eq_some_iff.1 Q3.out).1
  have hba := hb1.trans ((Joins.below_alloc1 w1 (.cells M1 44)).mono hb1.size)
  have P1 := Lib.hid ((hba.block (w.heap.size + 1) (by omega)).trans Q1.out)
  have P2 := Lib.hid ((hba.block (w.heap.size + 1 + 1) (by omega)).trans Q2.out)
  have P3 := Lib.hid ((hba.block (w.heap.size + 1 + 1 + 1) (by omega)).trans Q3.out)
  have A1 : Hid ((w1.alloc (.cells M1 44)).heap[w1.heap.size]? = some (.cells M1 44 (0, 0))) := heap_alloc_last w1 _
  have B1 := Lib.hid (B0.out.trans (hba.mono B0.out.size))
  have l1 : w.heap.size + 1 + 1 + 1 < w1.heap.size := Nat.lt_of_lt_of_le l0 hb1.size
  have c1 : (w1.alloc (.cells M1 44)).cell? ⟨w.heap.size + 1, 0, none⟩ = some v := cell_of_one P1.out
  have C2 := Lib.hid (HC2.out _ B1.out)
  clear hb1 hba c0
  obtain ⟨p1, hp1⟩ : ∃ p, validB ss = p := ⟨_, rfl⟩
  obtain ⟨p2, hp2⟩ : ∃ p, validB tt = p := ⟨_, rfl⟩
  have HP1 := Lib.hid hp1
  have HP2 := Lib.hid hp2
  rw [hp1]
  rw [hp2] at C2
  clear hp1 hp2
  go_wp2_with (refine wpList_store_new w1 rfl 44 _ _ rfl M1 rfl rfl 44 zeros HI1.out HZ1.out HO1.out ?_)
  refine C2.out.mono ?_
  rintro e w2 ⟨rfl, hb2⟩
  have hba := hb2.trans ((Joins.below_alloc1 w2 (.cells M2 44)).mono hb2.size)
  have hsz := B1.out.size
  have hs2 : w1.heap.size + 1 ≤ w2.heap.size := by have := hb2.size; simpa using this
  have R2 := Lib.hid ((hba.block (w.heap.size + 1 + 1) (by simp; omega)).trans P2.out)
  have R3 := Lib.hid ((hba.block (w.heap.size + 1 + 1 + 1) (by simp; omega)).trans P3.out)
  have A2 := Lib.hid ((hba.block w1.heap.size (by simp)).trans A1.out)
  have D2 : Hid ((w2.alloc (.cells M2 44)).heap[w2.heap.size]? = some (.cells M2 44 (0, 0))) := heap_alloc_last w2 _
  have B2 := Lib.hid (B1.out.trans (hba.mono hsz))
  have R3' := Lib.hid ((setRow_other (w2.alloc (.cells M2 44)) (w.heap.size + 1 + 1) (w.heap.size + 1 + 1 + 1) zeros (by omega)).trans R3.out)
  have S2 := Lib.hid (setRow_heap _ _ _ zeros _ _ R2.out)
  have S3 := Lib.hid (setRow_heap _ _ _ zeros _ _ R3'.out)
  have S2' := Lib.hid ((setRow_other _ (w.heap.size + 1 + 1 + 1) (w.heap.size + 1 + 1) zeros (by omega)).trans S2.out)
  have BF := Lib.hid (setRow_below (setRow_below B2.out (g := w.heap.size + 1 + 1) (by omega) zeros) (g := w.heap.size + 1 + 1 + 1) (by omega) zeros)
  clear hb2 hba c1
  cases p1 with
  | false =>
    go_wp2_with (refine wpList_store_new w2 rfl 44 _ _ rfl M2 rfl rfl 44 zeros HI2.out HZ2.out HO2.out ?_; refine Hid.out ?_)
    refine Lib.hid ?_
    go_wp2_with (refine wpList_store_row rfl 44 _ _ rfl (w.heap.size + 1 + 1) zeros rfl rfl 44 zeros R2.out infoM rfl (mcells_one _ _ _) ?_; refine Hid.out ?_)
    refine Lib.hid ?_
    go_wp2_with (refine wpList_store_row rfl 44 _ _ rfl (w.heap.size + 1 + 1 + 1) zeros rfl rfl 44 zeros R3'.out infoM rfl (mcells_one _ _ _) ?_)
    exact bodyPost_ret (results_cell2_tmp rfl _ _ (w.heap.size + 1 + 1) (w.heap.size + 1 + 1 + 1) 44 44 zeros zeros (0, 0) (0, 0) _ rfl S2'.out rfl S3.out Tryd.underlying44 rfl infoM infoM) rfl ⟨rfl, BF.out⟩
  | true =>
    cases p2 with
    | false =>
      go_wp2_with (refine wpList_store_new w2 rfl 44 _ _ rfl M2 rfl rfl 44 zeros HI2.out HZ2.out HO2.out ?_; refine Hid.out ?_)
      refine Lib.hid ?_
      go_wp2_with (refine wpList_store_row rfl 44 _ _ rfl (w.heap.size + 1 + 1) zeros rfl rfl 44 zeros R2.out infoM rfl (mcells_one _ _ _) ?_; refine Hid.out ?_)
      refine Lib.hid ?_
      go_wp2_with (refine wpList_store_row rfl 44 _ _ rfl (w.heap.size + 1 + 1 + 1) zeros rfl rfl 44 zeros R3'.out infoM rfl (mcells_one _ _ _) ?_)
      exact bodyPost_ret (results_cell2_tmp rfl _ _ (w.heap.size + 1 + 1) (w.heap.size + 1 + 1 + 1) 44 44 zeros zeros (0, 0) (0, 0) _ rfl S2'.out rfl S3.out Tryd.underlying44 rfl infoM infoM) rfl ⟨rfl, BF.out⟩
    | true =>
      have hm1 := HM1.out HP1.out
      have hm2 := HM2.out HP2.out
      have ca0 : (w2.alloc (.cells M2 44)).cell? ⟨w1.heap.size, 0, none⟩ = some (.int .i64 (row0 ss).size) := by rw [Joins.cell_of_block A2.out 0, hm1]; rfl
      have ca1 : (w2.alloc (.cells M2 44)).cell? ⟨w1.heap.size, 1, none⟩ = some (.int .i64 ss.length) := by rw [Joins.cell_of_block A2.out 1, hm1]; rfl
      have cb0 : (w2.alloc (.cells M2 44)).cell? ⟨w2.heap.size, 0, none⟩ = some (.int .i64 (row0 tt).size) := by rw [Joins.cell_of_block D2.out 0, hm2]; rfl
      have cb1 : (w2.alloc (.cells M2 44)).cell? ⟨w2.heap.size, 1, none⟩ = some (.int .i64 tt.length) := by rw [Joins.cell_of_block D2.out 1, hm2]; rfl
      have hl := HNo.out
      unfold likeB at hl
      rw [HP1.out, HP2.out] at hl
      by_cases hw : (row0 ss).size = (row0 tt).size
      · have hh : ((ss.length : Int) != (tt.length : Int)) = true := by
          rw [bne_iff_ne]
          intro e
          rw [decide_eq_true hw, decide_eq_true (Int.ofNat_inj.1 e)] at hl
          exact absurd hl (by decide)
        have hw' : (((row0 ss).size : Int) != ((row0 tt).size : Int)) = false := by rw [hw]; simp
        clear hl hm1 hm2 hw
        go_wp2_with (refine wpList_store_new w2 rfl 44 _ _ rfl M2 rfl rfl 44 zeros HI2.out HZ2.out HO2.out ?_; refine Hid.out ?_)
        refine Lib.hid ?_
        go_wp2_with (refine wpList_store_row rfl 44 _ _ rfl (w.heap.size + 1 + 1) zeros rfl rfl 44 zeros R2.out infoM rfl (mcells_one _ _ _) ?_; refine Hid.out ?_)
        refine Lib.hid ?_
        go_wp2_with (refine wpList_store_row rfl 44 _ _ rfl (w.heap.size + 1 + 1 + 1) zeros rfl rfl 44 zeros R3'.out infoM rfl (mcells_one _ _ _) ?_)
        exact bodyPost_ret (results_cell2_tmp rfl _ _ (w.heap.size + 1 + 1) (w.heap.size + 1 + 1 + 1) 44 44 zeros zeros (0, 0) (0, 0) _ rfl S2'.out rfl S3.out Tryd.underlying44 rfl infoM infoM) rfl ⟨rfl, BF.out⟩
      · have hw' : (((row0 ss).size : Int) != ((row0 tt).size : Int)) = true := by rw [bne_iff_ne]; omega
        clear hl hm1 hm2 hw
        go_wp2_with (refine wpList_store_new w2 rfl 44 _ _ rfl M2 rfl rfl 44 zeros HI2.out HZ2.out HO2.out ?_; refine Hid.out ?_)
        refine Lib.hid ?_
        go_wp2_with (refine wpList_store_row rfl 44 _ _ rfl (w.heap.size + 1 + 1) zeros rfl rfl 44 zeros R2.out infoM rfl (mcells_one _ _ _) ?_; refine Hid.out ?_)
        refine Lib.hid ?_
        go_wp2_with (refine wpList_store_row rfl 44 _ _ rfl (w.heap.size + 1 + 1 + 1) zeros rfl rfl 44 zeros R3'.out infoM rfl (mcells_one _ _ _) ?_)
        exact bodyPost_ret (results_cell2_tmp rfl _ _ (w.heap.size + 1 + 1) (w.heap.size + 1 + 1 + 1) 44 44 zeros zeros (0, 0) (0, 0) _ rfl S2'.out rfl S3.out Tryd.underlying44 rfl infoM infoM) rfl ⟨rfl, BF.out⟩
end Go.Proofs.YthoffbibaimjlaaDoor
