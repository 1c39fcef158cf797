/- Contracts of single functions, and plain lemmas, on which the exact laws of this seat rest; each holds under the conditions that it states. -/
import Derived.Test.YthoffbibaimjlaaDoorLi
import Derived.Test.YthoffbibaimjlaaDoorMr
import Derived.Test.YthoffbibaimjlaaDoorCc
namespace Go.Proofs.YthoffbibaimjlaaDoor
set_option linter.unusedVariables false
set_option linter.unusedSimpArgs false
open Go.RowKit

/-- the bits of one word that are not in the other one -/
def anW (W V : Nat) : Nat := W &&& (4294967295 - V)
theorem an_bits (W V : Nat) (hW : W < 4294967296) (hV : V < 4294967296) : bits .andNot .u32 (W : Int) (V : Int) = ((anW W V : Nat) : Int) := by
  rw [u32_andNot_nat W V hW hV]; rfl
theorem an_bit (W V x : Nat) (hV : V < 4294967296) (hx : x < 32) : (anW W V).testBit x = (W.testBit x && !V.testBit x) := by
  unfold anW
  rw [Nat.testBit_and]
  congr 1
  rw [show 4294967295 - V = 2 ^ 32 - (V + 1) from by omega, Nat.testBit_two_pow_sub_succ (by omega), decide_eq_true hx, Bool.true_and]

theorem sub_yes {ss tt : List ByteArray} (V : VP ss) (V2 : VP tt) (hw : (row0 ss).size = (row0 tt).size) (hh : ss.length = tt.length) (h : ∀ j, j < 16 → anW (wordsOf ss j) (wordsOf tt j) = 0) :
    subB (pixL ss (row0 ss).size ((row0 ss).size * ss.length)) (pixL tt (row0 ss).size ((row0 ss).size * ss.length)) = true := by
  refine subB_yes fun i hi => ?_
  rw [pixL_len] at hi
  have hw1 := V.w1
  have hx : i % (row0 ss).size < (row0 ss).size := Nat.mod_lt _ (by omega)
  have hy : i / (row0 ss).size < ss.length := Nat.div_lt_of_lt_mul hi
  have e1 : (pixL ss (row0 ss).size ((row0 ss).size * ss.length)).getD i false = pixF ss (i / (row0 ss).size) (i % (row0 ss).size) := by simp [pixL, List.getD, hi]
  have e2 : (pixL tt (row0 ss).size ((row0 ss).size * ss.length)).getD i false = pixF tt (i / (row0 ss).size) (i % (row0 ss).size) := by simp [pixL, List.getD, hi]
  rw [e1, e2, ← words_at V _ _ hy hx, ← words_at V2 _ _ (by omega) (by omega)]
  have := h (i / (row0 ss).size) (by have := V.n16; omega)
  have hb := an_bit (wordsOf ss (i / (row0 ss).size)) (wordsOf tt (i / (row0 ss).size)) (i % (row0 ss).size) (words_lt V2 _) (by have := V.w16; omega)
  rw [this, Nat.zero_testBit] at hb
  intro ht
  rw [ht] at hb
  simpa using hb.symm

theorem sub_no {ss tt : List ByteArray} (V : VP ss) (V2 : VP tt) (hw : (row0 ss).size = (row0 tt).size) (hh : ss.length = tt.length) {j : Nat} (h : anW (wordsOf ss j) (wordsOf tt j) ≠ 0) :
    subB (pixL ss (row0 ss).size ((row0 ss).size * ss.length)) (pixL tt (row0 ss).size ((row0 ss).size * ss.length)) = false := by
  obtain ⟨x, hx⟩ : ∃ x, (anW (wordsOf ss j) (wordsOf tt j)).testBit x = true := by
    by_cases hc : ∃ x, (anW (wordsOf ss j) (wordsOf tt j)).testBit x = true
    · exact hc
    · exfalso
      refine h (Nat.eq_of_testBit_eq fun x => ?_)
      rw [Nat.zero_testBit]
      cases hb : (anW (wordsOf ss j) (wordsOf tt j)).testBit x with
      | false => rfl
      | true => exact absurd ⟨x, hb⟩ hc
  have hs : (wordsOf ss j).testBit x = true := by
    unfold anW at hx
    rw [Nat.testBit_and] at hx
    exact (Bool.and_eq_true_iff.1 hx).1
  have hj : j < ss.length := by
    by_cases hc : j < ss.length
    · exact hc
    · unfold wordsOf at hs
      rw [if_neg hc, Nat.zero_testBit] at hs
      exact absurd hs (by decide)
  have hxw : x < (row0 ss).size := by
    by_cases hc : x < (row0 ss).size
    · exact hc
    · have h1 := words_lt_pow V j
      have h2 : 2 ^ (row0 ss).size ≤ 2 ^ x := Nat.pow_le_pow_right (by omega) (by omega)
      rw [Nat.testBit_lt_two_pow (by omega)] at hs
      exact absurd hs (by decide)
  have hb := an_bit (wordsOf ss j) (wordsOf tt j) x (words_lt V2 _) (by have := V.w16; omega)
  rw [hx, hs, Bool.true_and] at hb
  have ht : (wordsOf tt j).testBit x = false := by simpa using hb.symm
  have h3 : (j + 1) * (row0 ss).size ≤ ss.length * (row0 ss).size := Nat.mul_le_mul_right _ hj
  rw [Nat.add_mul, Nat.one_mul, Nat.mul_comm ss.length] at h3
  refine subB_no (i := j * (row0 ss).size + x) (by rw [pixL_len]; omega) ?_ ?_
  · rw [pixL_at ss _ _ j x hj hxw, ← words_at V _ _ hj hxw]; exact hs
  · rw [pixL_at tt _ _ j x hj hxw, ← words_at V2 _ _ (by omega) (by omega)]; exact ht

set_option maxHeartbeats 2000000 in
set_option maxRecDepth 100000 in
theorem isInside_any (a b a' b' : Nat) (g k : Nat → Nat) (r : Bool) (w : World) (HA : ∀ j, bits .andNot .u32 ((g j : Nat) : Int) ((k j : Nat) : Int) = ((anW (g j) (k j) : Nat) : Int)) (HY0 : (∀ j, j < 16 → anW (g j) (k j) = 0) → r = true) (HNo0 : ∀ j, anW (g j) (k j) ≠ 0 → r = false) :
    Calls Tryd.prog 21 #[.agg (mat a b g), .agg (mat a' b' k)] w (SaysB r w) := by
  have HA := Lib.hid HA
  have HY := Lib.hid HY0
  have HNo := Lib.hid HNo0
  have HR : Hid (∀ j, j < 16 → (rowsL g).toArray[j]? = some (.int .u32 (g j))) := fun j hj => rowsL_at g j hj
  have hm1 : ((w.alloc (.cells (mat a b g) 44)).alloc (.cells (mat a' b' k) 44)).heap[w.heap.size]? = some (.cells (mat a b g) 44 (0, 0)) := by
    rw [Below.heap_alloc _ _ _ (by simp)]; exact heap_alloc_last w _
  have hm2 : ((w.alloc (.cells (mat a b g) 44)).alloc (.cells (mat a' b' k) 44)).heap[w.heap.size + 1]? = some (.cells (mat a' b' k) 44 (0, 0)) := heap_alloc2_new _ _ _
  have HRA := Lib.hid (rowsL_range hm1)
  have HKC : Hid (∀ i, i < 16 → ((w.alloc (.cells (mat a b g) 44)).alloc (.cells (mat a' b' k) 44)).cell? ⟨w.heap.size + 1, 2 + i, none⟩ = some (.int .u32 (k i))) := fun i hi => by
    rw [Joins.cell_of_block hm2 (2 + i)]; exact mcells_word _ _ _ i hi
  have HRL := Lib.hid (infoRows.trans (congrArg some (rowsL_len g).symm))
  obtain ⟨M1, hM1⟩ : ∃ M, mat a b g = M := ⟨_, rfl⟩
  obtain ⟨M2, hM2⟩ : ∃ M, mat a' b' k = M := ⟨_, rfl⟩
  obtain ⟨R, hR⟩ : ∃ R, rowsL g = R := ⟨_, rfl⟩
  rw [hR] at HRA HRL HR
  rw [hM1, hM2] at HRA HKC ⊢
  obtain ⟨RA, hRA⟩ : ∃ RA, R.toArray = RA := ⟨_, rfl⟩
  have HRe := Lib.hid hRA
  rw [hRA] at HR
  clear hm1 hm2 hR hRA hM1 hM2 HY0 HNo0
  go_enter Tryd.func21, Tryd.ntmps21
  go_wp2_with (refine wpList_load_mid rfl 42 _ rfl w.heap.size 2 rfl R _ HRA.out Tryd.underlying42 rfl HRL.out ?_; rw [HRe.out])
  go_loop [9] (fun iv => ∃ i : Nat, i ≤ 16 ∧ iv = .int .i64 i ∧ Hid (∀ j, j < i → anW (g j) (k j) = 0)) (fun iv => 16 - (intOf iv).toNat)
  case atStart => exact ⟨0, Nat.zero_le _, rfl, fun j h => by omega⟩
  case round =>
    obtain ⟨i, hi, rfl, H⟩ := hrel
    by_cases hlt : i < 16
    · have ki : (i : Int) < 16 := by omega
      have hri := HR.out i hlt
      have hix := fun w => run_index_rows RA i _ w hlt hri
      have hki := HKC.out i hlt
      have hai := HA.out i
      by_cases hz0 : anW (g i) (k i) = 0
      · rw [hz0] at hai
        have hz1 : ((((0 : Nat) : Int)) != 0) = false := rfl
        have HZ0 := Lib.hid hz0
        obtain ⟨X, hX⟩ : ∃ X, g i = X := ⟨_, rfl⟩
        obtain ⟨Y, hY⟩ : ∃ Y, k i = Y := ⟨_, rfl⟩
        rw [hX] at hri hix hai
        rw [hY] at hki hai
        clear hX hY hz0
        go_wp2
        go_round
        case rel => exact ⟨i + 1, by omega, by go_num, fun j hj => by
          by_cases e : j = i
          · subst e; exact HZ0.out
          · exact H.out j (by omega)⟩
        case measure => simp [intOf]; omega
      · have hno := HNo.out i hz0
        have HNn := Lib.hid hno
        obtain ⟨Z, hZ⟩ : ∃ Z, anW (g i) (k i) = Z := ⟨_, rfl⟩
        rw [hZ] at hai hz0
        have hz1 : (((Z : Nat) : Int) != 0) = true := by rw [bne_iff_ne]; omega
        obtain ⟨X, hX⟩ : ∃ X, g i = X := ⟨_, rfl⟩
        obtain ⟨Y, hY⟩ : ∃ Y, k i = Y := ⟨_, rfl⟩
        rw [hX] at hri hix hai
        rw [hY] at hki hai
        clear hX hY hZ hno hz0
        go_wp2
        go_ret
        exact ⟨ret_b (a := false) HNn.out.symm, Joins.below_alloc2 w _ _⟩
    · obtain rfl : i = 16 := by omega
      have hyes := HY.out (fun j hj => H.out j hj)
      have HYn := Lib.hid hyes
      clear hyes
      go_wp2
      go_ret
      exact ⟨ret_b (a := true) HYn.out.symm, Joins.below_alloc2 w _ _⟩

set_option maxHeartbeats 2000000 in
set_option maxRecDepth 100000 in
theorem impl_Inside (u v : Value) (ss tt : List ByteArray) (w : World) (hN : ss.length ≤ maxLen) (hz : ∀ s ∈ ss, s.size ≤ maxLen) (hu : Sl w u ss) (hN2 : tt.length ≤ maxLen) (hz2 : ∀ s ∈ tt, s.size ≤ maxLen) (hv : Sl w v tt) (he : ErrLen w) :
    Calls Tryd.prog 8 #[.agg #[u], .agg #[v]] w (SaysB (insideP ss tt) w) := by
  have hb0 : Below w.heap.size w ((w.alloc (.cells #[u] 27)).alloc (.cells #[v] 27)) := Joins.below_alloc2 w _ _
  have hl1 : ((w.alloc (.cells #[u] 27)).alloc (.cells #[v] 27)).heap[w.heap.size]? = some (.cells #[u] 27 (0, 0)) := by
    rw [Below.heap_alloc _ _ _ (by simp)]; exact heap_alloc_last w _
  have cu : ((w.alloc (.cells #[u] 27)).alloc (.cells #[v] 27)).cell? ⟨w.heap.size, 0, none⟩ = some u := cell_of_one hl1
  have cv : ((w.alloc (.cells #[u] 27)).alloc (.cells #[v] 27)).cell? ⟨w.heap.size + 1, 0, none⟩ = some v := cell_of_one (heap_alloc2_new _ _ _)
  cases hok : likeB ss tt with
  | false =>
    have C := Lib.hid (matricesOf_no u v ss tt _ hN hz (hu.below hb0) hN2 hz2 (hv.below hb0) (he.below hb0) hok)
    have e : Hid (insideP ss tt = false) := by show insideP ss tt = _; unfold insideP; rw [hok]; rfl
    unfold NoMats at C
    clear hok hl1 hu hv hb0 he
    go_enter Tryd.func8, Tryd.ntmps8
    go_wp2_with fail
    refine C.out.mono ?_
    rintro e w1 ⟨rfl, hb1⟩
    have HB : Hid (Below w.heap.size w w1) := (Joins.below_alloc2 w (.cells #[u] 27) (.cells #[v] 27)).trans (hb1.mono (by simp; omega))
    clear hb1 cu cv
    go_wp2_with (refine wpList_store_under w1 (.cells zeros 44) rfl 44 _ _ rfl zeros rfl rfl 44 zeros infoM rfl (mcells_one _ _ _) ?_; refine Hid.out ?_)
    refine Lib.hid ?_
    go_wp2_with (refine wpList_store_new2 w1 (.cells zeros 44) rfl 44 _ _ rfl zeros rfl rfl 44 zeros infoM rfl (mcells_one _ _ _) ?_)
    go_ret
    exact ⟨ret_b (a := false) e.out.symm, HB.out.trans ((Joins.below_alloc2 w1 _ _).mono HB.out.size)⟩
  | true =>
    have C := Lib.hid (matricesOf_yes u v ss tt _ hN hz (hu.below hb0) hN2 hz2 (hv.below hb0) (he.below hb0) hok)
    have h4 := hok
    unfold likeB at h4
    simp only [Bool.and_eq_true, decide_eq_true_eq] at h4
    obtain ⟨⟨⟨v1, v2⟩, e1⟩, e2⟩ := h4
    have V1 := vp_of v1
    have V2 := vp_of v2
    have hins : insideP ss tt = subB (pixL ss (row0 ss).size ((row0 ss).size * ss.length)) (pixL tt (row0 ss).size ((row0 ss).size * ss.length)) := by unfold insideP; rw [hok, Bool.true_and]
    have HY : Hid ((∀ j, j < 16 → anW (wordsOf ss j) (wordsOf tt j) = 0) → insideP ss tt = true) := fun h => by rw [hins]; exact sub_yes V1 V2 e1 e2 h
    have HNo : Hid (∀ j, anW (wordsOf ss j) (wordsOf tt j) ≠ 0 → insideP ss tt = false) := fun j h => by rw [hins]; exact sub_no V1 V2 e1 e2 h
    have HA : Hid (∀ j, bits .andNot .u32 ((wordsOf ss j : Nat) : Int) ((wordsOf tt j : Nat) : Int) = ((anW (wordsOf ss j) (wordsOf tt j) : Nat) : Int)) := fun j => an_bits _ _ (words_lt V1 j) (words_lt V2 j)
    have CI : Hid (∀ W, Calls Tryd.prog 21 #[.agg (matC ss), .agg (matC tt)] W (SaysB (insideP ss tt) W)) := fun W => by
      rw [matC_yes v1, matC_yes v2]
      exact isInside_any _ _ _ _ _ _ _ W HA.out HY.out HNo.out
    have s1 := matC_size ss
    have o1 := matC_one ss
    have s2 := matC_size tt
    have o2 := matC_one tt
    obtain ⟨M1, hM1⟩ : ∃ M, matC ss = M := ⟨_, rfl⟩
    obtain ⟨M2, hM2⟩ : ∃ M, matC tt = M := ⟨_, rfl⟩
    rw [hM1] at C s1 o1 CI
    rw [hM2] at C s2 o2 CI
    have HI1 : Hid ((Tryd.prog.info? 44).map (·.size) = some M1.size) := by show _ = _; rw [s1]; exact infoM
    have HI2 : Hid ((Tryd.prog.info? 44).map (·.size) = some M2.size) := by show _ = _; rw [s2]; exact infoM
    have HZ1 := Lib.hid (zeros_size.trans s1.symm)
    have HZ2 := Lib.hid (zeros_size.trans s2.symm)
    have HO1 := Lib.hid o1
    have HO2 := Lib.hid o2
    obtain ⟨r, hr⟩ : ∃ r, insideP ss tt = r := ⟨_, rfl⟩
    rw [hr] at CI ⊢
    clear HY HNo HA s1 s2 o1 o2 hM1 hM2 hok hins hl1 hu hv hb0 he v1 v2 e1 e2 V1 V2 hr
    go_enter Tryd.func8, Tryd.ntmps8
    go_wp2_with fail
    refine C.out.mono ?_
    rintro e w1 ⟨rfl, hb1⟩
    have HB : Hid (Below w.heap.size w w1) := (Joins.below_alloc2 w (.cells #[u] 27) (.cells #[v] 27)).trans (hb1.mono (by simp; omega))
    have HB2 : Hid (Below w.heap.size w ((w1.alloc (.cells M1 44)).alloc (.cells M2 44))) := HB.out.trans ((Joins.below_alloc2 w1 _ _).mono HB.out.size)
    have hm1 : Hid (((w1.alloc (.cells M1 44)).alloc (.cells M2 44)).heap[w1.heap.size]? = some (.cells M1 44 (0, 0))) := by
      show _ = _
      rw [Below.heap_alloc _ _ _ (by simp)]; exact heap_alloc_last w1 _
    have hm2 : Hid (((w1.alloc (.cells M1 44)).alloc (.cells M2 44)).heap[w1.heap.size + 1]? = some (.cells M2 44 (0, 0))) := heap_alloc2_new _ _ _
    clear hb1 cu cv
    go_wp2_with (refine wpList_store_under w1 (.cells zeros 44) rfl 44 _ _ rfl M1 rfl rfl 44 zeros HI1.out HZ1.out HO1.out ?_; refine Hid.out ?_)
    refine Lib.hid ?_
    go_wp2_with (refine wpList_store_new2 w1 (.cells M1 44) rfl 44 _ _ rfl M2 rfl rfl 44 zeros HI2.out HZ2.out HO2.out ?_; refine Hid.out ?_)
    refine Lib.hid ?_
    go_wp2_with (refine wpList_load_row_g rfl 44 _ rfl w1.heap.size rfl 44 M1 (0, 0) _ hm1.out Tryd.underlying44 rfl HI1.out ?_; refine Hid.out ?_)
    refine Lib.hid ?_
    go_wp2_with (refine wpList_load_row_g rfl 44 _ rfl (w1.heap.size + 1) rfl 44 M2 (0, 0) _ hm2.out Tryd.underlying44 rfl HI2.out ?_; refine Hid.out ?_)
    refine Lib.hid ?_
    go_wp2_with fail
    refine (CI.out _).mono ?_
    rintro e w2 ⟨rfl, hb2⟩
    have HB3 := Lib.hid (HB2.out.trans (hb2.mono HB2.out.size))
    clear hb2
    go_wp2
    go_ret
    exact ⟨rfl, HB3.out⟩
end Go.Proofs.YthoffbibaimjlaaDoor
