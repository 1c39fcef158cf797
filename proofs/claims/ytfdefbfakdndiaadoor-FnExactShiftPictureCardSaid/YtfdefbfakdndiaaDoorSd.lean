/- Contracts of single functions, and plain lemmas, on which the exact laws of this seat rest; each holds under the conditions that it states. -/
import Derived.Test.YtfdefbfakdndiaaDoorSc
namespace Go.Proofs.YtfdefbfakdndiaaDoor
set_option linter.unusedVariables false
open Go.RowKit

set_option maxHeartbeats 1000000 in
set_option maxRecDepth 100000 in
theorem impl_Shift_yes (v : Value) (ss : List ByteArray) (dx dy : Int) (w : World) (hN : ss.length ≤ maxLen) (hz : ∀ s ∈ ss, s.size ≤ maxLen) (hv : Sl w v ss) (he : ErrLen w) (hok : validB ss = true) (hx : -16 ≤ dx ∧ dx ≤ 16) (hy : -16 ≤ dy ∧ dy ≤ 16) :
    Calls Tryd.prog 39 #[.agg #[v], .int .i64 dx, .int .i64 dy] w (SaysPic (mkPic (row0 ss).size ss.length (shF ss dx dy)) true w) := by
  have V := vp_of hok
  have hw16 := V.w16
  have hn16 := V.n16
  obtain ⟨x1, x2⟩ := hx
  obtain ⟨y1, y2⟩ := hy
  have hb0 : Below w.heap.size w ((w.alloc (.cells #[v] 28)).alloc (.cells #[.slice none 0 0] 28)) := Joins.below_alloc2 w _ _
  have hl1 : ((w.alloc (.cells #[v] 28)).alloc (.cells #[.slice none 0 0] 28)).heap[w.heap.size]? = some (.cells #[v] 28 (0, 0)) := by
    rw [Below.heap_alloc _ _ _ (by simp)]; exact heap_alloc_last w _
  have hl2 : ((w.alloc (.cells #[v] 28)).alloc (.cells #[.slice none 0 0] 28)).heap[w.heap.size + 1]? = some (.cells #[.slice none 0 0] 28 (0, 0)) := by
    have := heap_alloc_last (w.alloc (.cells #[v] 28)) (.cells #[.slice none 0 0] 28)
    simp only [World.size_alloc] at this
    exact this
  have L2 := Lib.hid hl2
  have hcv : ((w.alloc (.cells #[v] 28)).alloc (.cells #[.slice none 0 0] 28)).cell? ⟨w.heap.size, 0, none⟩ = some v := cell_of_one hl1
  have C := Lib.hid (matrixOf_any v ss _ hN hz (hv.below hb0) (he.below hb0))
  have hsz := matC_size ss
  have hone := matC_one ss
  have hMM := matC_yes hok
  unfold MatOf at C
  obtain ⟨M, hM⟩ : ∃ M, matC ss = M := ⟨_, rfl⟩
  rw [hM] at C hsz hone hMM
  have HI : Hid ((Tryd.prog.info? 70).map (·.size) = some M.size) := by show _ = _; rw [hsz]; exact infoM
  have HZ := Lib.hid (zeros_size.trans hsz.symm)
  have HO := Lib.hid hone
  have HMM := Lib.hid hMM
  have HPi : Hid (∀ W, Calls Tryd.prog 61 #[.agg (mat (row0 ss).size ss.length (shG (wordsOf ss) (row0 ss).size ss.length dx dy ss.length))] W (TookPic W (mkPic (row0 ss).size ss.length (shF ss dx dy)))) := fun W => by
    have := picture_any (mat (row0 ss).size ss.length (shG (wordsOf ss) (row0 ss).size ss.length dx dy ss.length)) _ _ _ W rfl hw16 hn16 (fun j => shG_lt _ _ _ _ _ _ j hw16)
    rwa [mkPic_congr fun y hy x hx => sh_bits V dx dy x1 x2 y x hy hx] at this
  have HG : Hid (∀ j, wordsOf ss j < 4294967296) := fun j => words_lt V j
  have HH : Hid (∀ (y : Nat) W, Calls Tryd.prog 59 #[.agg M, .int .i64 0, .int .i64 ((y : Int) - dy)] W (SaysB (hasB (row0 ss).size ss.length 0 ((y : Int) - dy)) W)) := fun y W =>
    has_any M (row0 ss).size ss.length (fun j => (wordsOf ss j : Int)) 0 ((y : Int) - dy) W ⟨hMM⟩
  have HOk := Lib.hid hok
  obtain ⟨pic, hpic⟩ : ∃ x, mkPic (row0 ss).size ss.length (shF ss dx dy) = x := ⟨_, rfl⟩
  rw [hpic] at HPi ⊢
  obtain ⟨g, hg⟩ : ∃ g, wordsOf ss = g := ⟨_, rfl⟩
  rw [hg] at HPi HMM HG
  obtain ⟨a, ha⟩ : ∃ a, (row0 ss).size = a := ⟨_, rfl⟩
  obtain ⟨b, hbb⟩ : ∃ b, ss.length = b := ⟨_, rfl⟩
  rw [ha] at HPi HMM HH hw16
  rw [hbb] at HPi HMM HH hn16
  have CMk := Lib.hid (fun W => maskOf_any a W hw16)
  obtain ⟨mk, hmk⟩ : ∃ mk, 2 ^ a - 1 = mk := ⟨_, rfl⟩
  have hmk2 : mk < 4294967296 := by
    have h : 2 ^ a ≤ 2 ^ 16 := Nat.pow_le_pow_right (by omega) hw16
    omega
  have HMK := Lib.hid hmk
  rw [hmk] at CMk
  clear hb0 hl1 hl2 hok hM hsz hone hMM V hv he hpic hg ha hbb hmk
  go_enter Tryd.func39, Tryd.ntmps39
  go_wp2_with fail
  refine C.out.mono ?_
  rintro e w1 ⟨rfl, hb⟩
  rw [HOk.out]
  have B1 : Hid (Below w.heap.size w w1) := (Joins.below_alloc2 w _ _).trans (hb.mono (by simp; omega))
  have P1 := Lib.hid ((hb.block (w.heap.size + 1) (by simp)).trans L2.out)
  have hs1 := B1.out.size
  have hl1 : w.heap.size + 1 < w1.heap.size := (Array.getElem?_eq_some_iff.1 P1.out).1
  have hm0 : (w1.alloc (.cells M 70)).heap[w1.heap.size]? = some (.cells M 70 (0, 0)) := heap_alloc_last w1 _
  have ca : (w1.alloc (.cells M 70)).cell? ⟨w1.heap.size, 0, none⟩ = some (.int .i64 a) := by
    rw [Joins.cell_of_block hm0 0, HMM.out]; rfl
  have cb : (w1.alloc (.cells M 70)).cell? ⟨w1.heap.size, 1, none⟩ = some (.int .i64 b) := by
    rw [Joins.cell_of_block hm0 1, HMM.out]; rfl
  have hm2 : ((w1.alloc (.cells M 70)).alloc (.cells (mcells a b (fun _ => 0)) 70)).heap[w1.heap.size]? = some (.cells M 70 (0, 0)) := by
    rw [Below.heap_alloc _ _ _ (by simp)]; exact hm0
  have hs2 : ((w1.alloc (.cells M 70)).alloc (.cells (mcells a b (fun _ => 0)) 70)).heap[w1.heap.size + 1]? = some (.cells (mcells a b (fun _ => 0)) 70 (0, 0)) := by
    have := heap_alloc_last (w1.alloc (.cells M 70)) (.cells (mcells a b (fun _ => 0)) 70)
    simp only [World.size_alloc] at this
    exact this
  have cb2 : ((w1.alloc (.cells M 70)).alloc (.cells (mcells a b (fun _ => 0)) 70)).cell? ⟨w1.heap.size, 1, none⟩ = some (.int .i64 b) := by
    rw [Joins.cell_of_block hm2 1, HMM.out]; rfl
  have HM2 := Lib.hid hm2
  have HS2 := Lib.hid hs2
  clear hb hcv hm0 hm2 hs2
  go_wp2_with (first | (refine wpList_store_new w1 rfl 70 _ _ rfl M rfl rfl 70 zeros HI.out HZ.out HO.out ?_) | (refine wpList_store_new2 w1 (.cells M 70) rfl 70 _ _ rfl (mcells a b (fun _ => 0)) rfl rfl 70 zeros infoM rfl (mcells_one _ _ _) ?_))
  have KD : Hid (∀ W : Nat, W < 4294967296 → bits .and .u32 ((W : Int) * (2 : Int) ^ (max dx 0).toNat % 4294967296 / (2 : Int) ^ (max (-dx) 0).toNat) (((2 : Int) ^ a - 1) % 4294967296) = ((shW W dx a : Nat) : Int)) := fun W hW => shW_eq W a dx hW hw16
  clear ca cb cb2
  go_loopw [44] (fun yv wr => ∃ y : Nat, y ≤ b ∧ yv = .int .i64 y ∧ wr.heap[w1.heap.size]? = some (.cells M 70 (0, 0)) ∧ wr.heap[w1.heap.size + 1]? = some (.cells (mat a b (shG g a b dx dy y)) 70 (0, 0)) ∧ Below w1.heap.size w1 wr) (fun yv _ => b - (intOf yv).toNat)
  case atStart => exact ⟨0, Nat.zero_le _, rfl, HM2.out, by rw [shG_zero]; exact HS2.out, Joins.below_alloc2 _ _ _⟩
  case round =>
    obtain ⟨y, hy, rfl, hm, hsh, hbel⟩ := hrel
    have M3 := Lib.hid hm
    have S3 := Lib.hid hsh
    have B3 := Lib.hid hbel
    have l3 : w1.heap.size + 1 < wr.heap.size := (Array.getElem?_eq_some_iff.1 hsh).1
    by_cases hlt : y < b
    · have kyb : (y : Int) < (b : Int) := by omega
      have ky16 : (y : Int) < 16 := by omega
      have hh := HH.out y
      cases hin : hasB (a : Int) (b : Int) 0 ((y : Int) - dy) with
      | false =>
        rw [hin] at hh
        have HHy := Lib.hid hh
        have HST := Lib.hid (shG_skip g a b dx dy y hin)
        clear hh hm hsh hbel hin
        go_wp2_with (first | (refine wpList_load_row rfl 70 _ rfl w1.heap.size rfl 70 M (0, 0) _ M3.out Tryd.underlying70 rfl HI.out ?_) | (refine (HHy.out _).mono ?_; rintro e w4 ⟨rfl, hb4⟩; refine Hid.out ?_))
        refine Lib.hid ?_
        have M4 := Lib.hid ((hb4.block w1.heap.size (by omega)).trans M3.out)
        have S4 := Lib.hid ((hb4.block (w1.heap.size + 1) l3).trans S3.out)
        have B4 := Lib.hid (B3.out.trans (hb4.mono (by omega)))
        clear hb4
        go_wp2
        go_roundw
        case rel => exact ⟨y + 1, by omega, by go_num, M4.out, by rw [HST.out]; exact S4.out, B4.out⟩
        case measure => simp [intOf]; omega
      | true =>
        rw [hin] at hh
        have HHy := Lib.hid hh
        have hin2 := hin
        unfold hasB at hin2
        simp only [Bool.and_eq_true, decide_eq_true_eq] at hin2
        obtain ⟨q, hq⟩ := Int.eq_ofNat_of_zero_le hin2.1.2
        have hqb : q < b := by have := hin2.2; omega
        have HST := Lib.hid (shG_step g a b dx dy y q hin hq)
        have HQ := Lib.hid hq
        clear hh hm hsh hbel hin hin2 hq
        go_wp2_with (first | (refine wpList_load_row rfl 70 _ rfl w1.heap.size rfl 70 M (0, 0) _ M3.out Tryd.underlying70 rfl HI.out ?_) | (refine (HHy.out _).mono ?_; rintro e w4 ⟨rfl, hb4⟩; refine Hid.out ?_))
        refine Lib.hid ?_
        have M4 := Lib.hid ((hb4.block w1.heap.size (by omega)).trans M3.out)
        have S4 := Lib.hid ((hb4.block (w1.heap.size + 1) l3).trans S3.out)
        have B4 := Lib.hid (B3.out.trans (hb4.mono (by omega)))
        have kq : (q : Int) < 16 := by omega
        have cq : w4.cell? ⟨w1.heap.size, 2 + q, none⟩ = some (.int .u32 (g q)) := by
          rw [Joins.cell_of_block M4.out (2 + q), HMM.out]; exact mcells_word _ _ _ q (by omega)
        have c0 : w4.cell? ⟨w1.heap.size, 0, none⟩ = some (.int .i64 a) := by rw [Joins.cell_of_block M4.out 0, HMM.out]; rfl
        have fz : w4.frozen? ⟨w1.heap.size + 1, 2 + y, none⟩ = false := Joins.unfrozen_of_block S4.out _
        have cy : w4.cell? ⟨w1.heap.size + 1, 2 + y, none⟩ = some (.int .u32 (shG g a b dx dy y y)) := by
          rw [Joins.cell_of_block S4.out (2 + y)]; exact mcells_word _ _ _ y (by omega)
        have hq := HQ.out
        clear hb4
        have KX := Lib.hid (KD.out (g q) (HG.out q))
        have HX := Lib.hid (Lib.heap_setCell_same (i := 2 + y) S4.out (.int .u32 ((shW (g q) dx a : Nat) : Int)))
        rw [mat_put a b _ y (by omega), HST.out] at HX
        go_wp2
        refine ⟨⟨y + 1, by omega, by go_num, ?_, ?_, ?_⟩, by simp [intOf]; omega⟩
        · exact (Below.heap_setCell _ _ _ _ (by simp)).trans M4.out
        · rw [KX.out]; exact HX.out
        · exact B4.out.setCell (by simp) _
    · obtain rfl : y = b := by omega
      obtain ⟨M2, hM2⟩ : ∃ M2, mat a y (shG g a y dx dy y) = M2 := ⟨_, rfl⟩
      have hsz2 : M2.size = 18 := by rw [← hM2]; rfl
      have HI2 : Hid ((Tryd.prog.info? 70).map (·.size) = some M2.size) := by show _ = _; rw [hsz2]; exact infoM
      rw [hM2] at S3 HPi
      have P3 := Lib.hid ((hbel.block (w.heap.size + 1) hl1).trans P1.out)
      have B5 : Hid (Below w.heap.size w wr) := B1.out.trans (hbel.mono hs1)
      clear hm hsh hbel hM2 hsz2
      go_wp2_with (refine wpList_load_row rfl 70 _ rfl (w1.heap.size + 1) rfl 70 M2 (0, 0) _ S3.out Tryd.underlying70 rfl HI2.out ?_)
      refine (HPi.out _).mono ?_
      rintro e w4 ⟨g4, cap4, rfl, hown4, hb4⟩
      have hp2 := (hb4.block (w.heap.size + 1) (Array.getElem?_eq_some_iff.1 P3.out).1).trans P3.out
      have hfr : w4.frozen? ⟨w.heap.size + 1, 0, none⟩ = false := free_of_one hp2
      have hc2 : w4.cell? ⟨w.heap.size + 1, 0, none⟩ = some (.slice none 0 0) := cell_of_one hp2
      have O2 := Lib.hid (own_set (u := .slice (some ⟨g4, 0, none⟩) pic.length cap4) hown4 hp2 (by decide))
      have P4 := Lib.hid hp2
      have B4 := Lib.hid (B5.out.trans (hb4.mono B5.out.size))
      have hs3 := B5.out.size
      clear hown4 hp2 hb4
      go_wp2_with fail
      refine bodyPost_ret (v := .tuple #[.agg #[.slice (some ⟨g4, 0, none⟩) pic.length cap4], .bool true]) (by simp [results, Tryd.results39, go_sem, cell_of_one (one_setCell P4.out)]) rfl ⟨_, _, _, rfl, Joins.ownsRow_le O2.out hs3, B4.out.setCell (by simp) _⟩
end Go.Proofs.YtfdefbfakdndiaaDoor
