/- Contracts of single functions, and plain lemmas, on which the exact laws of this seat rest; each holds under the conditions that it states. -/
import Derived.Test.YtenbhnfajjknkaaDoorLk
import Derived.Test.YtenbhnfajjknkaaDoorLs
import Derived.Test.YtenbhnfajjknkaaDoorCc
import Derived.RegionTactic
import Derived.BigRegion
namespace Go.Proofs.YtenbhnfajjknkaaDoor
set_option linter.unusedVariables false
set_option linter.unusedSimpArgs false
open Go.RowKit

def NoMats (w : World) (e : Ending) (w' : World) : Prop := e = .returned (.tuple #[.agg zeros, .agg zeros, .bool false]) ∧ Below w.heap.size w w'

set_option maxHeartbeats 2000000 in
set_option maxRecDepth 100000 in
theorem matricesOf_no (u v : Value) (ss tt : List ByteArray) (w : World) (hN : ss.length ≤ maxLen) (hz : ∀ s ∈ ss, s.size ≤ maxLen) (hu : Sl w u ss) (hN2 : tt.length ≤ maxLen) (hz2 : ∀ s ∈ tt, s.size ≤ maxLen) (hv : Sl w v tt) (he : ErrLen w) (hno : likeB ss tt = false) :
    Calls Tryd.prog 74 #[.agg #[u], .agg #[v]] w (NoMats w) := by
  obtain ⟨W0, hW0⟩ : ∃ W0, ((((w.alloc (.cells #[u] 30)).alloc (.cells #[v] 30)).alloc (.cells zeros 99)).alloc (.cells zeros 99)) = W0 := ⟨_, rfl⟩
  have b0 : Below w.heap.size w W0 := by
    rw [← hW0]; exact (Joins.below_alloc2 w _ _).trans ((Joins.below_alloc2 _ _ _).mono (by simp; omega))
  have q0 : W0.heap[w.heap.size]? = some (.cells #[u] 30 (0, 0)) := by
    rw [← hW0, Below.heap_alloc _ _ _ (by simp; try omega), Below.heap_alloc _ _ _ (by simp; try omega), Below.heap_alloc _ _ _ (by simp)]; exact heap_alloc_last w _
  have q1 : W0.heap[w.heap.size + 1]? = some (.cells #[v] 30 (0, 0)) := by
    rw [← hW0, Below.heap_alloc _ _ _ (by simp; try omega), Below.heap_alloc _ _ _ (by simp; try omega)]; exact heap_alloc2_new _ _ _
  have q2 : W0.heap[w.heap.size + 1 + 1]? = some (.cells zeros 99 (0, 0)) := by
    rw [← hW0, Below.heap_alloc _ _ _ (by simp)]
    have := heap_alloc_last ((w.alloc (.cells #[u] 30)).alloc (.cells #[v] 30)) (.cells zeros 99)
    simpa using this
  have q3 : W0.heap[w.heap.size + 1 + 1 + 1]? = some (.cells zeros 99 (0, 0)) := by
    have := heap_alloc_last (((w.alloc (.cells #[u] 30)).alloc (.cells #[v] 30)).alloc (.cells zeros 99)) (.cells zeros 99)
    rw [← hW0]; simpa using this
  have c0 : ((((w.alloc (.cells #[u] 30)).alloc (.cells #[v] 30)).alloc (.cells zeros 99)).alloc (.cells zeros 99)).cell? ⟨w.heap.size, 0, none⟩ = some u := by rw [hW0]; exact cell_of_one q0
  have C1 := Lib.hid (matrixOf_any u ss _ hN hz (hu.below b0) (he.below b0))
  rw [← hW0] at C1
  have HC2 : Hid (∀ W, Below w.heap.size w W → Calls Tryd.prog 88 #[.agg #[v]] W (MatOf tt W)) := fun W hb => matrixOf_any v tt W hN2 hz2 (hv.below hb) (he.below hb)
  unfold MatOf at C1 HC2
  have s1 := matC_size ss
  have o1 := matC_one ss
  have m1 := matC_yes (ss := ss)
  have s2 := matC_size tt
  have o2 := matC_one tt
  have m2 := matC_yes (ss := tt)
  obtain ⟨M1, hM1⟩ : ∃ M, matC ss = M := ⟨_, rfl⟩
  obtain ⟨M2, hM2⟩ : ∃ M, matC tt = M := ⟨_, rfl⟩
  rw [hM1] at C1 s1 o1 m1
  rw [hM2] at HC2 s2 o2 m2
  have HI1 : Hid ((Tryd.prog.info? 99).map (·.size) = some M1.size) := by show _ = _; rw [s1]; exact infoM
  have HI2 : Hid ((Tryd.prog.info? 99).map (·.size) = some M2.size) := by show _ = _; rw [s2]; exact infoM
  have HZ1 := Lib.hid (zeros_size.trans s1.symm)
  have HZ2 := Lib.hid (zeros_size.trans s2.symm)
  have HO1 := Lib.hid o1
  have HO2 := Lib.hid o2
  have HM1 := Lib.hid m1
  have HM2 := Lib.hid m2
  have Q1 := Lib.hid q1
  have Q2 := Lib.hid q2
  have Q3 := Lib.hid q3
  have B0 := Lib.hid b0
  have HW0 := Lib.hid hW0
  have HNo := Lib.hid hno
  clear s1 s2 o1 o2 m1 m2 q0 q1 q2 q3 b0 hW0 hu hv he hM1 hM2 hno
  go_enter Tryd.func74, Tryd.ntmps74
  go_wp2_with fail
  refine C1.out.mono ?_
  rintro e w1 ⟨rfl, hb1⟩
  rw [HW0.out] at hb1
  have l0 : w.heap.size + 1 + 1 + 1 < W0.heap.size := (Array.getElem?_eq_some_iff.1 Q3.out).1
  have hba := hb1.trans ((Joins.below_alloc1 w1 (.cells M1 99)).mono hb1.size)
  have P1 := Lib.hid ((hba.block (w.heap.size + 1) (by omega)).trans Q1.out)
  have P2 := Lib.hid ((hba.block (w.heap.size + 1 + 1) (by omega)).trans Q2.out)
  have P3 := Lib.hid ((hba.block (w.heap.size + 1 + 1 + 1) (by omega)).trans Q3.out)
  have A1 : Hid ((w1.alloc (.cells M1 99)).heap[w1.heap.size]? = some (.cells M1 99 (0, 0))) := heap_alloc_last w1 _
  have B1 := Lib.hid (B0.out.trans (hba.mono B0.out.size))
  have l1 : w.heap.size + 1 + 1 + 1 < w1.heap.size := Nat.lt_of_lt_of_le l0 hb1.size
  have c1 : (w1.alloc (.cells M1 99)).cell? ⟨w.heap.size + 1, 0, none⟩ = some v := cell_of_one P1.out
  have C2 := Lib.hid (HC2.out _ B1.out)
  clear hb1 hba c0
  obtain ⟨p1, hp1⟩ : ∃ p, validB ss = p := ⟨_, rfl⟩
  obtain ⟨p2, hp2⟩ : ∃ p, validB tt = p := ⟨_, rfl⟩
  have HP1 := Lib.hid hp1
  have HP2 := Lib.hid hp2
  rw [hp1]
  rw [hp2] at C2
  clear hp1 hp2
  go_wp2_with (refine wpList_store_new w1 rfl 99 _ _ rfl M1 rfl rfl 99 zeros HI1.out HZ1.out HO1.out ?_)
  refine C2.out.mono ?_
  rintro e w2 ⟨rfl, hb2⟩
  have hba := hb2.trans ((Joins.below_alloc1 w2 (.cells M2 99)).mono hb2.size)
  have hsz := B1.out.size
  have hs2 : w1.heap.size + 1 ≤ w2.heap.size := by have := hb2.size; simpa using this
  have R2 := Lib.hid ((hba.block (w.heap.size + 1 + 1) (by simp; omega)).trans P2.out)
  have R3 := Lib.hid ((hba.block (w.heap.size + 1 + 1 + 1) (by simp; omega)).trans P3.out)
  have A2 := Lib.hid ((hba.block w1.heap.size (by simp)).trans A1.out)
  have D2 : Hid ((w2.alloc (.cells M2 99)).heap[w2.heap.size]? = some (.cells M2 99 (0, 0))) := heap_alloc_last w2 _
  have B2 := Lib.hid (B1.out.trans (hba.mono hsz))
  have R3' := Lib.hid ((setRow_other (w2.alloc (.cells M2 99)) (w.heap.size + 1 + 1) (w.heap.size + 1 + 1 + 1) zeros (by omega)).trans R3.out)
  have S2 := Lib.hid (setRow_heap _ _ _ zeros _ _ R2.out)
  have S3 := Lib.hid (setRow_heap _ _ _ zeros _ _ R3'.out)
  have S2' := Lib.hid ((setRow_other _ (w.heap.size + 1 + 1 + 1) (w.heap.size + 1 + 1) zeros (by omega)).trans S2.out)
  have BF := Lib.hid (setRow_below (setRow_below B2.out (g := w.heap.size + 1 + 1) (by omega) zeros) (g := w.heap.size + 1 + 1 + 1) (by omega) zeros)
  clear hb2 hba c1
  cases p1 with
  | false =>
    go_wp2_with (refine wpList_store_new w2 rfl 99 _ _ rfl M2 rfl rfl 99 zeros HI2.out HZ2.out HO2.out ?_; refine Hid.out ?_)
    refine Lib.hid ?_
    go_wp2_with (refine wpList_store_row rfl 99 _ _ rfl (w.heap.size + 1 + 1) zeros rfl rfl 99 zeros R2.out infoM rfl (mcells_one _ _ _) ?_; refine Hid.out ?_)
    refine Lib.hid ?_
    go_wp2_with (refine wpList_store_row rfl 99 _ _ rfl (w.heap.size + 1 + 1 + 1) zeros rfl rfl 99 zeros R3'.out infoM rfl (mcells_one _ _ _) ?_)
    exact bodyPost_ret (results_cell2_tmp rfl _ _ (w.heap.size + 1 + 1) (w.heap.size + 1 + 1 + 1) 99 99 zeros zeros (0, 0) (0, 0) _ rfl S2'.out rfl S3.out Tryd.underlying99 rfl infoM infoM) rfl ⟨rfl, BF.out⟩
  | true =>
    cases p2 with
    | false =>
      go_wp2_with (refine wpList_store_new w2 rfl 99 _ _ rfl M2 rfl rfl 99 zeros HI2.out HZ2.out HO2.out ?_; refine Hid.out ?_)
      refine Lib.hid ?_
      go_wp2_with (refine wpList_store_row rfl 99 _ _ rfl (w.heap.size + 1 + 1) zeros rfl rfl 99 zeros R2.out infoM rfl (mcells_one _ _ _) ?_; refine Hid.out ?_)
      refine Lib.hid ?_
      go_wp2_with (refine wpList_store_row rfl 99 _ _ rfl (w.heap.size + 1 + 1 + 1) zeros rfl rfl 99 zeros R3'.out infoM rfl (mcells_one _ _ _) ?_)
      exact bodyPost_ret (results_cell2_tmp rfl _ _ (w.heap.size + 1 + 1) (w.heap.size + 1 + 1 + 1) 99 99 zeros zeros (0, 0) (0, 0) _ rfl S2'.out rfl S3.out Tryd.underlying99 rfl infoM infoM) rfl ⟨rfl, BF.out⟩
    | true =>
      have hm1 := HM1.out HP1.out
      have hm2 := HM2.out HP2.out
      have ca0 : (w2.alloc (.cells M2 99)).cell? ⟨w1.heap.size, 0, none⟩ = some (.int .i64 (row0 ss).size) := by rw [Joins.cell_of_block A2.out 0, hm1]; rfl
      have ca1 : (w2.alloc (.cells M2 99)).cell? ⟨w1.heap.size, 1, none⟩ = some (.int .i64 ss.length) := by rw [Joins.cell_of_block A2.out 1, hm1]; rfl
      have cb0 : (w2.alloc (.cells M2 99)).cell? ⟨w2.heap.size, 0, none⟩ = some (.int .i64 (row0 tt).size) := by rw [Joins.cell_of_block D2.out 0, hm2]; rfl
      have cb1 : (w2.alloc (.cells M2 99)).cell? ⟨w2.heap.size, 1, none⟩ = some (.int .i64 tt.length) := by rw [Joins.cell_of_block D2.out 1, hm2]; rfl
      have hl := HNo.out
      unfold likeB at hl
      rw [HP1.out, HP2.out] at hl
      by_cases hw : (row0 ss).size = (row0 tt).size
      · have hh : ((ss.length : Int) != (tt.length : Int)) = true := by
          rw [bne_iff_ne]
          intro e
          rw [decide_eq_true hw, decide_eq_true (Int.ofNat_inj.1 e)] at hl
          exact absurd hl (by decide)
        have hw' : (((row0 ss).size : Int) != ((row0 tt).size : Int)) = false := by rw [hw]; simp
        clear hl hm1 hm2 hw
        go_wp2_with (refine wpList_store_new w2 rfl 99 _ _ rfl M2 rfl rfl 99 zeros HI2.out HZ2.out HO2.out ?_; refine Hid.out ?_)
        refine Lib.hid ?_
        go_wp2_with (refine wpList_store_row rfl 99 _ _ rfl (w.heap.size + 1 + 1) zeros rfl rfl 99 zeros R2.out infoM rfl (mcells_one _ _ _) ?_; refine Hid.out ?_)
        refine Lib.hid ?_
        go_wp2_with (refine wpList_store_row rfl 99 _ _ rfl (w.heap.size + 1 + 1 + 1) zeros rfl rfl 99 zeros R3'.out infoM rfl (mcells_one _ _ _) ?_)
        exact bodyPost_ret (results_cell2_tmp rfl _ _ (w.heap.size + 1 + 1) (w.heap.size + 1 + 1 + 1) 99 99 zeros zeros (0, 0) (0, 0) _ rfl S2'.out rfl S3.out Tryd.underlying99 rfl infoM infoM) rfl ⟨rfl, BF.out⟩
      · have hw' : (((row0 ss).size : Int) != ((row0 tt).size : Int)) = true := by rw [bne_iff_ne]; omega
        clear hl hm1 hm2 hw
        go_wp2_with (refine wpList_store_new w2 rfl 99 _ _ rfl M2 rfl rfl 99 zeros HI2.out HZ2.out HO2.out ?_; refine Hid.out ?_)
        refine Lib.hid ?_
        go_wp2_with (refine wpList_store_row rfl 99 _ _ rfl (w.heap.size + 1 + 1) zeros rfl rfl 99 zeros R2.out infoM rfl (mcells_one _ _ _) ?_; refine Hid.out ?_)
        refine Lib.hid ?_
        go_wp2_with (refine wpList_store_row rfl 99 _ _ rfl (w.heap.size + 1 + 1 + 1) zeros rfl rfl 99 zeros R3'.out infoM rfl (mcells_one _ _ _) ?_)
        exact bodyPost_ret (results_cell2_tmp rfl _ _ (w.heap.size + 1 + 1) (w.heap.size + 1 + 1 + 1) 99 99 zeros zeros (0, 0) (0, 0) _ rfl S2'.out rfl S3.out Tryd.underlying99 rfl infoM infoM) rfl ⟨rfl, BF.out⟩
end Go.Proofs.YtenbhnfajjknkaaDoor

/- Contracts of single functions, and plain lemmas, on which the exact laws of this seat rest; each holds under the conditions that it states. -/
namespace Go.Proofs.YtenbhnfajjknkaaDoor
set_option linter.unusedVariables false
open Go.RowKit

/-- what is true in one list is true in the other one -/
def subB (xs ys : List Bool) : Bool := (List.range xs.length).all fun i => !(xs.getD i false && !ys.getD i false)
theorem subB_no {xs ys : List Bool} {i : Nat} (hi : i < xs.length) (h1 : xs.getD i false = true) (h2 : ys.getD i false = false) : subB xs ys = false := by
  unfold subB
  rw [List.all_eq_false]
  exact ⟨i, List.mem_range.2 hi, by rw [h1, h2]; decide⟩
theorem subB_yes {xs ys : List Bool} (h : ∀ i, i < xs.length → (xs.getD i false = true → ys.getD i false = true)) : subB xs ys = true := by
  unfold subB
  rw [List.all_eq_true]
  intro i hi
  have := h i (List.mem_range.1 hi)
  cases hx : xs.getD i false with
  | false => rfl
  | true => rw [this hx]; rfl

/-- one picture is inside the other one -/
def insideP (ss tt : List ByteArray) : Bool := likeB ss tt && subB (pixL ss (row0 ss).size ((row0 ss).size * ss.length)) (pixL tt (row0 ss).size ((row0 ss).size * ss.length))

end Go.Proofs.YtenbhnfajjknkaaDoor

/- Contracts of single functions, and plain lemmas, on which the exact laws of this seat rest; each holds under the conditions that it states. -/
namespace Go.Proofs.YtenbhnfajjknkaaDoor
set_option linter.unusedVariables false
set_option linter.unusedSimpArgs false
open Go.RowKit

/-- the bits of one word that are not in the other one -/
def anW (W V : Nat) : Nat := W &&& (4294967295 - V)
theorem an_bits (W V : Nat) (hW : W < 4294967296) (hV : V < 4294967296) : bits .andNot .u32 (W : Int) (V : Int) = ((anW W V : Nat) : Int) := by
  rw [u32_andNot_nat W V hW hV]; rfl
theorem an_bit (W V x : Nat) (hV : V < 4294967296) (hx : x < 32) : (anW W V).testBit x = (W.testBit x && !V.testBit x) := by
  unfold anW
  rw [Nat.testBit_and]
  congr 1
  rw [show 4294967295 - V = 2 ^ 32 - (V + 1) from by omega, Nat.testBit_two_pow_sub_succ (by omega), decide_eq_true hx, Bool.true_and]

theorem sub_yes {ss tt : List ByteArray} (V : VP ss) (V2 : VP tt) (hw : (row0 ss).size = (row0 tt).size) (hh : ss.length = tt.length) (h : ∀ j, j < 16 → anW (wordsOf ss j) (wordsOf tt j) = 0) :
    subB (pixL ss (row0 ss).size ((row0 ss).size * ss.length)) (pixL tt (row0 ss).size ((row0 ss).size * ss.length)) = true := by
  refine subB_yes fun i hi => ?_
  rw [pixL_len] at hi
  have hw1 := V.w1
  have hx : i % (row0 ss).size < (row0 ss).size := Nat.mod_lt _ (by omega)
  have hy : i / (row0 ss).size < ss.length := Nat.div_lt_of_lt_mul hi
  have e1 : (pixL ss (row0 ss).size ((row0 ss).size * ss.length)).getD i false = pixF ss (i / (row0 ss).size) (i % (row0 ss).size) := by simp [pixL, List.getD, hi]
  have e2 : (pixL tt (row0 ss).size ((row0 ss).size * ss.length)).getD i false = pixF tt (i / (row0 ss).size) (i % (row0 ss).size) := by simp [pixL, List.getD, hi]
  rw [e1, e2, ← words_at V _ _ hy hx, ← words_at V2 _ _ (by omega) (by omega)]
  have := h (i / (row0 ss).size) (by have := V.n16; omega)
  have hb := an_bit (wordsOf ss (i / (row0 ss).size)) (wordsOf tt (i / (row0 ss).size)) (i % (row0 ss).size) (words_lt V2 _) (by have := V.w16; omega)
  rw [this, Nat.zero_testBit] at hb
  intro ht
  rw [ht] at hb
  simpa using hb.symm

theorem sub_no {ss tt : List ByteArray} (V : VP ss) (V2 : VP tt) (hw : (row0 ss).size = (row0 tt).size) (hh : ss.length = tt.length) {j : Nat} (h : anW (wordsOf ss j) (wordsOf tt j) ≠ 0) :
    subB (pixL ss (row0 ss).size ((row0 ss).size * ss.length)) (pixL tt (row0 ss).size ((row0 ss).size * ss.length)) = false := by
  obtain ⟨x, hx⟩ : ∃ x, (anW (wordsOf ss j) (wordsOf tt j)).testBit x = true := by
    by_cases hc : ∃ x, (anW (wordsOf ss j) (wordsOf tt j)).testBit x = true
    · exact hc
    · exfalso
      refine h (Nat.eq_of_testBit_eq fun x => ?_)
      rw [Nat.zero_testBit]
      cases hb : (anW (wordsOf ss j) (wordsOf tt j)).testBit x with
      | false => rfl
      | true => exact absurd ⟨x, hb⟩ hc
  have hs : (wordsOf ss j).testBit x = true := by
    unfold anW at hx
    rw [Nat.testBit_and] at hx
    exact (Bool.and_eq_true_iff.1 hx).1
  have hj : j < ss.length := by
    by_cases hc : j < ss.length
    · exact hc
    · unfold wordsOf at hs
      rw [if_neg hc, Nat.zero_testBit] at hs
      exact absurd hs (by decide)
  have hxw : x < (row0 ss).size := by
    by_cases hc : x < (row0 ss).size
    · exact hc
    · have h1 := words_lt_pow V j
      have h2 : 2 ^ (row0 ss).size ≤ 2 ^ x := Nat.pow_le_pow_right (by omega) (by omega)
      rw [Nat.testBit_lt_two_pow (by omega)] at hs
      exact absurd hs (by decide)
  have hb := an_bit (wordsOf ss j) (wordsOf tt j) x (words_lt V2 _) (by have := V.w16; omega)
  rw [hx, hs, Bool.true_and] at hb
  have ht : (wordsOf tt j).testBit x = false := by simpa using hb.symm
  have h3 : (j + 1) * (row0 ss).size ≤ ss.length * (row0 ss).size := Nat.mul_le_mul_right _ hj
  rw [Nat.add_mul, Nat.one_mul, Nat.mul_comm ss.length] at h3
  refine subB_no (i := j * (row0 ss).size + x) (by rw [pixL_len]; omega) ?_ ?_
  · rw [pixL_at ss _ _ j x hj hxw, ← words_at V _ _ hj hxw]; exact hs
  · rw [pixL_at tt _ _ j x hj hxw, ← words_at V2 _ _ (by omega) (by omega)]; exact ht

end Go.Proofs.YtenbhnfajjknkaaDoor

/- Contracts of single functions, and plain lemmas, on which the exact laws of this seat rest; each holds under the conditions that it states. -/
namespace Go.Proofs.YtenbhnfajjknkaaDoor
set_option linter.unusedVariables false
set_option linter.unusedSimpArgs false
open Go.RowKit

/-- the first i of a list are joined with another list's -/
def mixJ (f : Bool → Bool → Bool) (l m : List Bool) (i : Nat) : List Bool := (List.range l.length).map fun j => if j < i then f (l.getD j false) (m.getD j false) else l.getD j false
theorem mixJ_len (f : Bool → Bool → Bool) (l m : List Bool) (i : Nat) : (mixJ f l m i).length = l.length := by simp [mixJ]
theorem mixJ_at (f : Bool → Bool → Bool) (l m : List Bool) (i j : Nat) (hj : j < l.length) : (mixJ f l m i)[j]? = some (if j < i then f (l.getD j false) (m.getD j false) else l.getD j false) := by
  simp [mixJ, hj]
theorem mixJ_zero (f : Bool → Bool → Bool) (l m : List Bool) : mixJ f l m 0 = l := by
  apply List.ext_getElem?
  intro j
  by_cases hj : j < l.length
  · rw [mixJ_at f l m 0 j hj, if_neg (by omega), List.getD_eq_getElem?_getD, List.getElem?_eq_getElem hj]; rfl
  · rw [List.getElem?_eq_none (by rw [mixJ_len]; omega), List.getElem?_eq_none (by omega)]
theorem mixJ_set (f : Bool → Bool → Bool) (l m : List Bool) (i : Nat) (hi : i < l.length) : (mixJ f l m i).set i (f (l.getD i false) (m.getD i false)) = mixJ f l m (i + 1) := by
  apply List.ext_getElem?
  intro j
  by_cases hj : j < l.length
  · rw [mixJ_at f l m (i + 1) j hj]
    by_cases h : i = j
    · subst h
      rw [List.getElem?_set_self (by rw [mixJ_len]; exact hj), if_pos (by omega)]
    · rw [List.getElem?_set_ne h, mixJ_at f l m i j hj]
      by_cases h2 : j < i
      · rw [if_pos h2, if_pos (by omega)]
      · rw [if_neg h2, if_neg (by omega)]
  · rw [List.getElem?_eq_none (by rw [List.length_set, mixJ_len]; omega), List.getElem?_eq_none (by rw [mixJ_len]; omega)]
theorem mixJ_all (f : Bool → Bool → Bool) (l m : List Bool) (j : Nat) (hj : j < l.length) : (mixJ f l m l.length).getD j false = f (l.getD j false) (m.getD j false) := by
  rw [List.getD_eq_getElem?_getD, mixJ_at f l m _ j hj, if_pos hj]; rfl

def joF (f : Bool → Bool → Bool) (ss tt : List ByteArray) (y x : Nat) : Bool := f (pixF ss y x) (pixF tt y x)
theorem jo_at (f : Bool → Bool → Bool) (ss tt : List ByteArray) (wd h y x : Nat) (hy : y < h) (hx : x < wd) : (mixJ f (pixL ss wd (wd * h)) (pixL tt wd (wd * h)) (wd * h)).getD (y * wd + x) false = joF f ss tt y x := by
  have h3 : (y + 1) * wd ≤ h * wd := Nat.mul_le_mul_right _ hy
  rw [Nat.add_mul, Nat.one_mul, Nat.mul_comm h wd] at h3
  have := mixJ_all f (pixL ss wd (wd * h)) (pixL tt wd (wd * h)) (y * wd + x) (by rw [pixL_len]; omega)
  rw [pixL_len, pixL_at ss wd h y x hy hx, pixL_at tt wd h y x hy hx] at this
  exact this
def jF0 (p q : Bool) : Bool := (p && q)
def jW0 (W V : Nat) : Nat := W &&& V
def jF1 (p q : Bool) : Bool := (p || q)
def jW1 (W V : Nat) : Nat := W ||| V
def jF2 (p q : Bool) : Bool := (p != q)
def jW2 (W V : Nat) : Nat := W ^^^ V
def jF3 (p q : Bool) : Bool := (p && !q)
def jW3 (W V : Nat) : Nat := anW W V
theorem jB0 (W V x : Nat) (hV : V < 4294967296) (hx : x < 32) : (jW0 W V).testBit x = jF0 (W.testBit x) (V.testBit x) := by unfold jW0 jF0; rw [Nat.testBit_and]
theorem jB1 (W V x : Nat) (hV : V < 4294967296) (hx : x < 32) : (jW1 W V).testBit x = jF1 (W.testBit x) (V.testBit x) := by unfold jW1 jF1; rw [Nat.testBit_or]
theorem jB2 (W V x : Nat) (hV : V < 4294967296) (hx : x < 32) : (jW2 W V).testBit x = jF2 (W.testBit x) (V.testBit x) := by unfold jW2 jF2; rw [Nat.testBit_xor]
theorem jB3 (W V x : Nat) (hV : V < 4294967296) (hx : x < 32) : (jW3 W V).testBit x = jF3 (W.testBit x) (V.testBit x) := by unfold jW3 jF3; rw [an_bit W V x hV hx]
theorem jL0 (W V : Nat) (hW : W < 4294967296) (hV : V < 4294967296) : jW0 W V < 4294967296 := Nat.lt_of_le_of_lt Nat.and_le_left hW
theorem jL1 (W V : Nat) (hW : W < 4294967296) (hV : V < 4294967296) : jW1 W V < 4294967296 := Nat.or_lt_two_pow (n := 32) hW hV
theorem jL2 (W V : Nat) (hW : W < 4294967296) (hV : V < 4294967296) : jW2 W V < 4294967296 := Nat.xor_lt_two_pow (n := 32) hW hV
theorem jL3 (W V : Nat) (hW : W < 4294967296) (hV : V < 4294967296) : jW3 W V < 4294967296 := Nat.lt_of_le_of_lt Nat.and_le_left hW
theorem jO0 (W V : Nat) (hW : W < 4294967296) (hV : V < 4294967296) : bits .and .u32 (W : Int) (V : Int) = ((jW0 W V : Nat) : Int) := u32_and_nat W V hW hV
theorem jO1 (W V : Nat) (hW : W < 4294967296) (hV : V < 4294967296) : bits .or .u32 (W : Int) (V : Int) = ((jW1 W V : Nat) : Int) := u32_or_nat W V hW hV
theorem jO2 (W V : Nat) (hW : W < 4294967296) (hV : V < 4294967296) : bits .xor .u32 (W : Int) (V : Int) = ((jW2 W V : Nat) : Int) := u32_xor_nat W V hW hV
theorem jO3 (W V : Nat) (hW : W < 4294967296) (hV : V < 4294967296) : bits .andNot .u32 (W : Int) (V : Int) = ((jW3 W V : Nat) : Int) := an_bits W V hW hV

set_option maxHeartbeats 400000 in
theorem join_0 (W V : Nat) (w : World) (hW : W < 4294967296) (hV : V < 4294967296) : Calls Tryd.prog 64 #[.int .i64 0, .int .u32 W, .int .u32 V] w fun e w' => e = .returned (.int .u32 (jW0 W V)) ∧ w = w' := by
  have k1 := jO0 W V hW hV
  obtain ⟨z, hz⟩ : ∃ z, jW0 W V = z := ⟨_, rfl⟩
  rw [hz] at k1 ⊢
  clear hW hV hz
  go_enter Tryd.func64, Tryd.ntmps64
  go_wp2
  go_ret
  exact ⟨rfl, rfl⟩

set_option maxHeartbeats 400000 in
theorem join_1 (W V : Nat) (w : World) (hW : W < 4294967296) (hV : V < 4294967296) : Calls Tryd.prog 64 #[.int .i64 1, .int .u32 W, .int .u32 V] w fun e w' => e = .returned (.int .u32 (jW1 W V)) ∧ w = w' := by
  have k1 := jO1 W V hW hV
  obtain ⟨z, hz⟩ : ∃ z, jW1 W V = z := ⟨_, rfl⟩
  rw [hz] at k1 ⊢
  clear hW hV hz
  go_enter Tryd.func64, Tryd.ntmps64
  go_wp2
  go_ret
  exact ⟨rfl, rfl⟩

set_option maxHeartbeats 400000 in
theorem join_2 (W V : Nat) (w : World) (hW : W < 4294967296) (hV : V < 4294967296) : Calls Tryd.prog 64 #[.int .i64 2, .int .u32 W, .int .u32 V] w fun e w' => e = .returned (.int .u32 (jW2 W V)) ∧ w = w' := by
  have k1 := jO2 W V hW hV
  obtain ⟨z, hz⟩ : ∃ z, jW2 W V = z := ⟨_, rfl⟩
  rw [hz] at k1 ⊢
  clear hW hV hz
  go_enter Tryd.func64, Tryd.ntmps64
  go_wp2
  go_ret
  exact ⟨rfl, rfl⟩

set_option maxHeartbeats 400000 in
theorem join_3 (W V : Nat) (w : World) (hW : W < 4294967296) (hV : V < 4294967296) : Calls Tryd.prog 64 #[.int .i64 3, .int .u32 W, .int .u32 V] w fun e w' => e = .returned (.int .u32 (jW3 W V)) ∧ w = w' := by
  have k1 := jO3 W V hW hV
  obtain ⟨z, hz⟩ : ∃ z, jW3 W V = z := ⟨_, rfl⟩
  rw [hz] at k1 ⊢
  clear hW hV hz
  go_enter Tryd.func64, Tryd.ntmps64
  go_wp2
  go_ret
  exact ⟨rfl, rfl⟩
end Go.Proofs.YtenbhnfajjknkaaDoor
