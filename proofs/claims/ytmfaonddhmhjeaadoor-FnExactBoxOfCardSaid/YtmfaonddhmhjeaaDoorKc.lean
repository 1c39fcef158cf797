/- Contracts of single functions, and plain lemmas, on which the exact laws of this seat rest; each holds under the conditions that it states. -/
import Derived.Test.YtmfaonddhmhjeaaDoorKb
import Derived.Test.YtmfaonddhmhjeaaDoorTz
namespace Go.Proofs.YtmfaonddhmhjeaaDoor
set_option linter.unusedVariables false
set_option linter.unusedSimpArgs false
open Go.RowKit

set_option maxHeartbeats 2000000 in
set_option maxRecDepth 100000 in
theorem impl_Box_no (v : Value) (ss : List ByteArray) (w : World) (hN : ss.length ≤ maxLen) (hz : ∀ s ∈ ss, s.size ≤ maxLen) (hv : Sl w v ss) (he : ErrLen w) (hok : validB ss = false) :
    Calls Tryd.prog 22 #[.agg #[v]] w (SaysBox ss w) := by
  obtain ⟨W0, hW0, hb0, hl0, hp0, hp1, hp2⟩ := begin_box w v
  have hcv : W0.cell? ⟨w.heap.size, 0, none⟩ = some v := cell_of_one hp0
  have C := Lib.hid (matrixOf_any v ss _ hN hz (hv.below hb0) (he.below hb0))
  have hsz := matC_size ss
  have hone := matC_one ss
  unfold MatOf at C
  obtain ⟨M, hM⟩ : ∃ M, matC ss = M := ⟨_, rfl⟩
  rw [hM] at C hsz hone
  have HI : Hid ((Tryd.prog.info? 66).map (·.size) = some M.size) := by show _ = _; rw [hsz]; exact infoM
  have HZ := Lib.hid (zeros_size.trans hsz.symm)
  have HO := Lib.hid hone
  have HOk := Lib.hid hok
  have HS : Hid (BoxSays ss 0 0 0 0 false) := Or.inr ⟨rfl, rfl, rfl, rfl, rfl, fun h => by rw [hok] at h; cases h⟩
  have HW := Lib.hid hW0
  have B0 := Lib.hid hb0
  have P1 : Hid (SpV W0 (w.heap.size + 1) 0 0) := hp1
  have P2 : Hid (SpV W0 (w.heap.size + 1 + 1) 0 0) := hp2
  clear hW0 hb0 hp0 hp1 hp2 hok hv he hM hsz hone
  go_enter Tryd.func22, Tryd.ntmps22
  go_wp2_with fail
  rw [HW.out]
  refine C.out.mono ?_
  rintro e w1 ⟨rfl, hb⟩
  rw [HOk.out]
  have B1 : Hid (Below w.heap.size w (w1.alloc (.cells M 66))) := (B0.out.trans (hb.mono B0.out.size)).alloc (Nat.le_trans B0.out.size hb.size) _
  have Q1 := (P1.out.below hb).below (Joins.below_alloc1 w1 (.cells M 66))
  have Q2 := (P2.out.below hb).below (Joins.below_alloc1 w1 (.cells M 66))
  have a0 := Q1.c0
  have a1 := Q1.c1
  have a2 := Q2.c0
  have a3 := Q2.c1
  have f0 := Q1.f 0
  have f1 := Q1.f 1
  have f2 := Q2.f 0
  have f3 := Q2.f 1
  clear hb hcv Q1 Q2
  go_wp2_with (refine wpList_store_new w1 rfl 66 _ _ rfl M rfl rfl 66 zeros HI.out HZ.out HO.out ?_; refine Hid.out ?_)
  refine Lib.hid ?_
  obtain ⟨W2, hW2⟩ : ∃ W2, w1.alloc (.cells M 66) = W2 := ⟨_, rfl⟩
  rw [hW2] at a0 a1 a2 a3 f0 f1 f2 f3 B1 ⊢
  clear hW2
  go_wp2_with fail
  refine bodyPost_ret (v := .tuple #[.agg #[.int .i64 0, .int .i64 0], .agg #[.int .i64 0, .int .i64 0], .bool false]) (by simp [results, Tryd.results22, go_sem, a0, a1, a2, a3, f0, f1, f2, f3]) rfl ⟨0, 0, 0, 0, false, rfl, HS.out, ?_⟩
  exact (((B1.out.setCell (by simp) _).setCell (by simp) _).setCell (by simp; omega) _).setCell (by simp; omega) _

set_option maxHeartbeats 4000000 in
set_option maxRecDepth 100000 in
theorem impl_Box_yes (v : Value) (ss : List ByteArray) (w : World) (hN : ss.length ≤ maxLen) (hz : ∀ s ∈ ss, s.size ≤ maxLen) (hv : Sl w v ss) (he : ErrLen w) (hT : TabW w) (hok : validB ss = true) :
    Calls Tryd.prog 22 #[.agg #[v]] w (SaysBox ss w) := by
  have V := vp_of hok
  obtain ⟨W0, hW0, hb0, hl0, hp0, hp1, hp2⟩ := begin_box w v
  have hcv : W0.cell? ⟨w.heap.size, 0, none⟩ = some v := cell_of_one hp0
  have C := Lib.hid (matrixOf_any v ss _ hN hz (hv.below hb0) (he.below hb0))
  have hsz := matC_size ss
  have hone := matC_one ss
  have hMM := matC_yes hok
  unfold MatOf at C
  obtain ⟨M, hM⟩ : ∃ M, matC ss = M := ⟨_, rfl⟩
  rw [hM] at C hsz hone hMM
  have HI : Hid ((Tryd.prog.info? 66).map (·.size) = some M.size) := by show _ = _; rw [hsz]; exact infoM
  have HZ := Lib.hid (zeros_size.trans hsz.symm)
  have HO := Lib.hid hone
  have HOk := Lib.hid hok
  have hg : ∀ j, wordsOf ss j < 65536 := fun j => words_small V j
  have HYes : Hid (orW (wordsOf ss) 16 ≠ 0 → nzW (wordsOf ss) 16 ≠ 0 ∧ BoxSays ss ((Lib.ctz 32 (orW (wordsOf ss) 16) : Nat) : Int) ((Lib.ctz 32 (nzW (wordsOf ss) 16) : Nat) : Int) ((Lib.bitLen (orW (wordsOf ss) 16) - 1 : Nat) : Int) ((Lib.bitLen (nzW (wordsOf ss) 16) - 1 : Nat) : Int) true) := fun h => by
    obtain ⟨h1, h2⟩ := box_words V h hg
    exact ⟨h1, Or.inl ⟨rfl, hok, _, _, _, _, rfl, rfl, rfl, rfl, h2⟩⟩
  have HNo : Hid (orW (wordsOf ss) 16 = 0 → BoxSays ss 0 0 0 0 false) := fun h => Or.inr ⟨rfl, rfl, rfl, rfl, rfl, fun _ => none_words V h⟩
  have HT : Hid (∀ W, Below w.heap.size w W → TabW W) := fun W hb => hT.below hb
  obtain ⟨g, hgg⟩ : ∃ g, wordsOf ss = g := ⟨_, rfl⟩
  rw [hgg] at hMM HYes HNo hg
  have HG := Lib.hid hg
  have HOr : Hid (∀ k, orW g k < 65536) := fun k => orW_lt g hg k
  have HNz : Hid (∀ k, k ≤ 16 → nzW g k < 65536) := fun k hk => nzW_lt g k hk
  have HR : Hid (∀ j, j < 16 → (rowsL g).toArray[j]? = some (.int .u32 (g j))) := fun j hj => rowsL_at g j hj
  have HMM := Lib.hid hMM
  have HW := Lib.hid hW0
  have B0 := Lib.hid hb0
  have P1 : Hid (SpV W0 (w.heap.size + 1) 0 0) := hp1
  have P2 : Hid (SpV W0 (w.heap.size + 1 + 1) 0 0) := hp2
  clear hW0 hb0 hp0 hp1 hp2 hok hv he hM hsz hone hMM V hgg hg hT
  go_enter Tryd.func22, Tryd.ntmps22
  go_wp2_with fail
  rw [HW.out]
  refine C.out.mono ?_
  rintro e w1 ⟨rfl, hb⟩
  rw [HOk.out]
  have B1 : Hid (Below w.heap.size w (w1.alloc (.cells M 66))) := (B0.out.trans (hb.mono B0.out.size)).alloc (Nat.le_trans B0.out.size hb.size) _
  have Q1 := Lib.hid ((P1.out.below hb).below (Joins.below_alloc1 w1 (.cells M 66)))
  have Q2 := Lib.hid ((P2.out.below hb).below (Joins.below_alloc1 w1 (.cells M 66)))
  have hm0 : (w1.alloc (.cells M 66)).heap[w1.heap.size]? = some (.cells (mat (row0 ss).size ss.length g) 66 (0, 0)) := by rw [← HMM.out]; exact heap_alloc_last w1 _
  have HRA := Lib.hid (rowsL_range hm0)
  have HRL := Lib.hid (infoRows.trans (congrArg some (rowsL_len g).symm))
  obtain ⟨R, hR⟩ : ∃ R, rowsL g = R := ⟨_, rfl⟩
  rw [hR] at HRA HRL HR
  obtain ⟨RA, hRA⟩ : ∃ RA, R.toArray = RA := ⟨_, rfl⟩
  have HRe := Lib.hid hRA
  rw [hRA] at HR
  clear hb hm0 hR hRA hcv
  go_wp2_with (first | (refine wpList_store_new w1 rfl 66 _ _ rfl M rfl rfl 66 zeros HI.out HZ.out HO.out ?_) | (refine wpList_load_mid rfl 64 _ rfl w1.heap.size 2 rfl R _ HRA.out Tryd.underlying64 rfl HRL.out ?_; rw [HRe.out]))
  obtain ⟨W2, hW2⟩ : ∃ W2, w1.alloc (.cells M 66) = W2 := ⟨_, rfl⟩
  rw [hW2] at B1 Q1 Q2 ⊢
  clear HRA hW2
  go_loop [7, 8, 24] (fun c r iv => ∃ i : Nat, i ≤ 16 ∧ c = .int .u32 (orW g i) ∧ r = .int .u32 (nzW g i) ∧ iv = .int .i64 i) (fun _ _ iv => 16 - (intOf iv).toNat)
  case atStart => exact ⟨0, Nat.zero_le _, rfl, rfl, rfl⟩
  case round =>
    obtain ⟨i, hi, rfl, rfl, rfl⟩ := hrel
    by_cases hlt : i < 16
    · have ki : (i : Int) < 16 := by omega
      have hri := HR.out i hlt
      have hix := fun w => run_index_rows RA i _ w hlt hri
      have hC := HOr.out i
      have hRr := HNz.out i hi
      have hGi := HG.out i
      have e1 : orW g (i + 1) = orW g i ||| g i := rfl
      have e2 : nzW g (i + 1) = if g i = 0 then nzW g i else nzW g i ||| 2 ^ i := rfl
      obtain ⟨Wd, hWd⟩ : ∃ W, g i = W := ⟨_, rfl⟩
      rw [hWd] at hri hix hGi e1 e2
      obtain ⟨Cc, hCc⟩ : ∃ C, orW g i = C := ⟨_, rfl⟩
      rw [hCc] at hC e1 ⊢
      obtain ⟨Rr, hRr2⟩ : ∃ C, nzW g i = C := ⟨_, rfl⟩
      rw [hRr2] at hRr e2 ⊢
      have kor : bits .or .u32 (Cc : Int) (Wd : Int) = ((Cc ||| Wd : Nat) : Int) := u32_or_nat Cc Wd (by omega) (by omega)
      have kor2 := or_bits Rr i (by omega) hlt
      by_cases h0 : Wd = 0
      · have kt : ((Wd : Int) != 0) = false := by rw [h0]; rfl
        rw [if_pos h0] at e2
        have E1 := Lib.hid e1
        have E2 := Lib.hid e2
        clear h0 hWd hCc hRr2 e1 e2 hri kor2
        go_wp2
        go_round
        case rel => exact ⟨i + 1, by omega, by rw [E1.out], by rw [E2.out], by go_num⟩
        case measure => simp [intOf]; omega
      · have kt : ((Wd : Int) != 0) = true := by rw [bne_iff_ne]; omega
        rw [if_neg h0] at e2
        have E1 := Lib.hid e1
        have E2 := Lib.hid e2
        clear h0 hWd hCc hRr2 e1 e2 hri
        go_wp2
        go_round
        case rel => exact ⟨i + 1, by omega, by rw [E1.out], by rw [E2.out], by go_num⟩
        case measure => simp [intOf]; omega
    · obtain rfl : i = 16 := by omega
      have hC := HOr.out 16
      have hRr := HNz.out 16 hi
      obtain ⟨Cc, hCc⟩ : ∃ C, orW g 16 = C := ⟨_, rfl⟩
      obtain ⟨Rr, hRr2⟩ : ∃ C, nzW g 16 = C := ⟨_, rfl⟩
      rw [hCc] at hC HYes HNo ⊢
      rw [hRr2] at hRr HYes ⊢
      have a0 := Q1.out.c0
      have a1 := Q1.out.c1
      have a2 := Q2.out.c0
      have a3 := Q2.out.c1
      have f0 := Q1.out.f 0
      have f1 := Q1.out.f 1
      have f2 := Q2.out.f 0
      have f3 := Q2.out.f 1
      clear hCc hRr2
      by_cases h0 : Cc = 0
      · have kt : ((Cc : Int) == 0) = true := by rw [h0]; rfl
        have HS := Lib.hid (HNo.out h0)
        clear h0
        go_wp2_with fail
        refine bodyPost_ret (v := .tuple #[.agg #[.int .i64 0, .int .i64 0], .agg #[.int .i64 0, .int .i64 0], .bool false]) (by simp [results, Tryd.results22, go_sem, a0, a1, a2, a3, f0, f1, f2, f3]) rfl ⟨0, 0, 0, 0, false, rfl, HS.out, ?_⟩
        exact (((B1.out.setCell (by simp) _).setCell (by simp) _).setCell (by simp; omega) _).setCell (by simp; omega) _
      · have kt : ((Cc : Int) == 0) = false := by rw [beq_eq_false_iff_ne]; omega
        obtain ⟨h1, hS⟩ := HYes.out h0
        have t1 : Hid (∀ W, TabW W → Calls Tryd.prog 56 #[.int .u32 Cc] W (fun e w' => e = .returned (.int .i64 ((Lib.ctz 32 Cc : Nat) : Int)) ∧ W = w')) := fun W hW => tz32 Cc W (by omega) hW
        have t2 : Hid (∀ W, TabW W → Calls Tryd.prog 56 #[.int .u32 Rr] W (fun e w' => e = .returned (.int .i64 ((Lib.ctz 32 Rr : Nat) : Int)) ∧ W = w')) := fun W hW => tz32 Rr W (by omega) hW
        obtain ⟨b1, b2, _, _⟩ := len_top h0 hC
        obtain ⟨b3, b4, _, _⟩ := len_top h1 hRr
        have t3 : Hid (∀ W, Calls Tryd.prog 57 #[.int .u32 Cc] W (fun e w' => e = .returned (.int .i64 ((Lib.bitLen Cc : Nat) : Int)) ∧ W = w')) := fun W => len32 Cc W (by omega)
        have t4 : Hid (∀ W, Calls Tryd.prog 57 #[.int .u32 Rr] W (fun e w' => e = .returned (.int .i64 ((Lib.bitLen Rr : Nat) : Int)) ∧ W = w')) := fun W => len32 Rr W (by omega)
        obtain ⟨p, hp⟩ : ∃ p, Lib.ctz 32 Cc = p := ⟨_, rfl⟩
        obtain ⟨q, hq⟩ : ∃ p, Lib.ctz 32 Rr = p := ⟨_, rfl⟩
        obtain ⟨r, hr⟩ : ∃ r, Lib.bitLen Cc = r + 1 := ⟨Lib.bitLen Cc - 1, by omega⟩
        obtain ⟨s, hs⟩ : ∃ r, Lib.bitLen Rr = r + 1 := ⟨Lib.bitLen Rr - 1, by omega⟩
        rw [hp, hq, hr, hs, Nat.add_sub_cancel, Nat.add_sub_cancel] at hS
        rw [hp] at t1
        rw [hq] at t2
        rw [hr] at t3 b2
        rw [hs] at t4 b4
        have HS := Lib.hid hS
        have TW := Lib.hid (HT.out _ B1.out)
        have hb1 := Joins.below_alloc1 W2 (.cells #[.int .i64 p, .int .i64 q] 42)
        have hb2 := Joins.below_alloc2 W2 (.cells #[.int .i64 p, .int .i64 q] 42) (.cells #[.int .i64 r, .int .i64 s] 42)
        have HBB := Lib.hid hb2
        clear hp hq hr hs h0 h1 hS b1 b3 hb1 hb2 a0 a1 a2 a3 f0 f1 f2 f3
        go_wp2_with fail
        refine (t1.out _ TW.out).mono ?_
        rintro e w' ⟨rfl, rfl⟩
        go_wp2_with fail
        refine (t2.out _ TW.out).mono ?_
        rintro e w' ⟨rfl, rfl⟩
        go_wp2_with fail
        refine (t3.out _).mono ?_
        rintro e w' ⟨rfl, rfl⟩
        go_wp2_with fail
        refine (t4.out _).mono ?_
        rintro e w' ⟨rfl, rfl⟩
        go_wp2_with fail
        obtain ⟨W5, hW5⟩ : ∃ W5, (W2.alloc (.cells #[.int .i64 p, .int .i64 q] 42)).alloc (.cells #[.int .i64 r, .int .i64 s] 42) = W5 := ⟨_, rfl⟩
        have S1 : SpV W5 W2.heap.size p q := by
          rw [← hW5]; show _ = _
          rw [Below.heap_alloc _ _ _ (by simp)]; exact heap_alloc_last W2 _
        have S2 : SpV W5 (W2.heap.size + 1) r s := by rw [← hW5]; exact heap_alloc2_new _ _ _
        have HB5 := HBB.out
        rw [hW5] at HB5
        have S3 := Q1.out.below HB5
        have S4 := Q2.out.below HB5
        have B5 := Lib.hid (B1.out.trans (HB5.mono B1.out.size))
        have l1 := Q1.out.lt
        have l2 := Q2.out.lt
        have g0 := S1.c0
        have g1 := S1.c1
        have g2 := S2.c0
        have g3 := S2.c1
        have a0 := S3.c0
        have a1 := S3.c1
        have a2 := S4.c0
        have a3 := S4.c1
        have f0 := S3.f 0
        have f1 := S3.f 1
        have f2 := S4.f 0
        have f3 := S4.f 1
        rw [hW5]
        clear hW5 S1 S2 S3 S4 HB5
        go_region
        go_wp2_with fail
        refine bodyPost_ret (v := .tuple #[.agg #[.int .i64 p, .int .i64 q], .agg #[.int .i64 r, .int .i64 s], .bool true]) (by simp [results, Tryd.results22, go_sem, a0, a1, a2, a3, f0, f1, f2, f3]) rfl ⟨_, _, _, _, true, rfl, HS.out, ?_⟩
        first
          | exact ((((B5.out.setCell (by simp) _).setCell (by simp) _).setCell (by simp; omega) _).setCell (by simp; omega) _).drew
          | exact ((((B5.out.drew.setCell (by simp) _).setCell (by simp) _).setCell (by simp; omega) _).setCell (by simp; omega) _)
end Go.Proofs.YtmfaonddhmhjeaaDoor
