/- Contracts of single functions, and plain lemmas, on which the exact laws of this seat rest; each holds under the conditions that it states. -/
import Derived.Test.YtabkkpifkkgpeaaDoorJe
import Derived.Test.YtabkkpifkkgpeaaDoorSF
import Derived.Test.YtabkkpifkkgpeaaDoorJa
import Derived.Test.YtabkkpifkkgpeaaDoorIi
import Derived.Deep.DeepCutAuto
namespace Go.Proofs.YtabkkpifkkgpeaaDoor
set_option linter.unusedVariables false
set_option linter.unusedSimpArgs false
open Go.RowKit


set_option maxHeartbeats 2000000 in
set_option maxRecDepth 100000 in
theorem impl_Join_2 (u v : Value) (ss tt : List ByteArray) (w : World) (hN : ss.length ≤ maxLen) (hz : ∀ s ∈ ss, s.size ≤ maxLen) (hu : Sl w u ss) (hN2 : tt.length ≤ maxLen) (hz2 : ∀ s ∈ tt, s.size ≤ maxLen) (hv : Sl w v tt) (he : ErrLen w) (hok : likeB ss tt = true) :
    Calls Tryd.prog 30 #[.int .i64 2, .agg #[u], .agg #[v]] w (SaysPic (mkPic (row0 ss).size ss.length (joF jF2 ss tt)) true w) := by
  have hb0 : Below w.heap.size w (((w.alloc (.cells #[u] 42)).alloc (.cells #[v] 42)).alloc (.cells #[.slice none 0 0] 42)) := Joins.below_alloc3 w _ _ _
  have hl1 : (((w.alloc (.cells #[u] 42)).alloc (.cells #[v] 42)).alloc (.cells #[.slice none 0 0] 42)).heap[w.heap.size]? = some (.cells #[u] 42 (0, 0)) := by
    rw [Below.heap_alloc _ _ _ (by simp; try omega), Below.heap_alloc _ _ _ (by simp)]; exact heap_alloc_last w _
  have hl2 : (((w.alloc (.cells #[u] 42)).alloc (.cells #[v] 42)).alloc (.cells #[.slice none 0 0] 42)).heap[w.heap.size + 1]? = some (.cells #[v] 42 (0, 0)) := by
    rw [Below.heap_alloc _ _ _ (by simp; try omega)]; exact heap_alloc2_new _ _ _
  have hl3 : (((w.alloc (.cells #[u] 42)).alloc (.cells #[v] 42)).alloc (.cells #[.slice none 0 0] 42)).heap[w.heap.size + 1 + 1]? = some (.cells #[.slice none 0 0] 42 (0, 0)) := by
    have := heap_alloc_last ((w.alloc (.cells #[u] 42)).alloc (.cells #[v] 42)) (.cells #[.slice none 0 0] 42)
    simpa using this
  have L3 := Lib.hid hl3
  have cu : (((w.alloc (.cells #[u] 42)).alloc (.cells #[v] 42)).alloc (.cells #[.slice none 0 0] 42)).cell? ⟨w.heap.size, 0, none⟩ = some u := cell_of_one hl1
  have cv : (((w.alloc (.cells #[u] 42)).alloc (.cells #[v] 42)).alloc (.cells #[.slice none 0 0] 42)).cell? ⟨w.heap.size + 1, 0, none⟩ = some v := cell_of_one hl2
  have C := Lib.hid (matricesOf_yes u v ss tt _ hN hz (hu.below hb0) hN2 hz2 (hv.below hb0) (he.below hb0) hok)
  have h4 := hok
  unfold likeB at h4
  simp only [Bool.and_eq_true, decide_eq_true_eq] at h4
  obtain ⟨⟨⟨v1, v2⟩, e1⟩, e2⟩ := h4
  have V1 := vp_of v1
  have V2 := vp_of v2
  have hw16 := V1.w16
  have hn16 := V1.n16
  have s1 := matC_size ss
  have o1 := matC_one ss
  have m1 := matC_yes v1
  have s2 := matC_size tt
  have o2 := matC_one tt
  have m2 := matC_yes v2
  obtain ⟨M1, hM1⟩ : ∃ M, matC ss = M := ⟨_, rfl⟩
  obtain ⟨M2, hM2⟩ : ∃ M, matC tt = M := ⟨_, rfl⟩
  rw [hM1] at C s1 o1 m1
  rw [hM2] at C s2 o2 m2
  have HI1 : Hid ((Tryd.prog.info? 96).map (·.size) = some M1.size) := by show _ = _; rw [s1]; exact infoM
  have HI2 : Hid ((Tryd.prog.info? 96).map (·.size) = some M2.size) := by show _ = _; rw [s2]; exact infoM
  have HZ1 := Lib.hid (zeros_size.trans s1.symm)
  have HZ2 := Lib.hid (zeros_size.trans s2.symm)
  have HO1 := Lib.hid o1
  have HO2 := Lib.hid o2
  have HPi : Hid (∀ W, Calls Tryd.prog 99 #[.agg (mat (row0 ss).size ss.length (joG jW2 (wordsOf ss) (wordsOf tt) ss.length))] W (TookPic W (mkPic (row0 ss).size ss.length (joF jF2 ss tt)))) := fun W => by
    have := picture_any (mat (row0 ss).size ss.length (joG jW2 (wordsOf ss) (wordsOf tt) ss.length)) _ _ _ W rfl hw16 hn16 (fun j => joG_lt jL2 (fun j => words_lt V1 j) (fun j => words_lt V2 j) _ j)
    rwa [mkPic_congr fun y hy x hx => jo_bits jB2 V1 V2 e1 e2 y x hy hx] at this
  have HJ : Hid (∀ j W, Calls Tryd.prog 85 #[.int .i64 2, .int .u32 (wordsOf ss j), .int .u32 (wordsOf tt j)] W fun e w' => e = .returned (.int .u32 (jW2 (wordsOf ss j) (wordsOf tt j))) ∧ W = w') := fun j W => join_2 _ _ W (words_lt V1 j) (words_lt V2 j)
  obtain ⟨pic, hpic⟩ : ∃ x, mkPic (row0 ss).size ss.length (joF jF2 ss tt) = x := ⟨_, rfl⟩
  rw [hpic] at HPi ⊢
  obtain ⟨g, hg⟩ : ∃ g, wordsOf ss = g := ⟨_, rfl⟩
  obtain ⟨h, hh⟩ : ∃ g, wordsOf tt = g := ⟨_, rfl⟩
  rw [hg] at m1 HPi HJ
  rw [hh] at m2 HPi HJ
  obtain ⟨a, ha⟩ : ∃ a, (row0 ss).size = a := ⟨_, rfl⟩
  obtain ⟨b, hbb⟩ : ∃ b, ss.length = b := ⟨_, rfl⟩
  rw [ha] at HPi m1 hw16
  rw [hbb] at HPi m1 hn16
  have HM1 := Lib.hid m1
  have HM2 := Lib.hid m2
  clear s1 s2 o1 o2 m1 m2 hM1 hM2 hok hl1 hl2 hl3 hu hv hb0 he v1 v2 e1 e2 V1 V2 hg hh ha hbb hpic
  go_enter Tryd.func30, Tryd.ntmps30
  go_wp2_with fail
  refine C.out.mono ?_
  rintro e w1 ⟨rfl, hb1⟩
  have B1 : Hid (Below w.heap.size w w1) := (Joins.below_alloc3 w _ _ _).trans (hb1.mono (by simp; omega))
  have P1 := Lib.hid ((hb1.block (w.heap.size + 1 + 1) (by simp)).trans L3.out)
  have hs1 := B1.out.size
  have hl1 : w.heap.size + 1 + 1 < w1.heap.size := (Array.getElem?_eq_some_iff.1 P1.out).1
  have hm1 : ((w1.alloc (.cells M1 96)).alloc (.cells M2 96)).heap[w1.heap.size]? = some (.cells M1 96 (0, 0)) := by
    rw [Below.heap_alloc _ _ _ (by simp)]; exact heap_alloc_last w1 _
  have hm2 : ((w1.alloc (.cells M1 96)).alloc (.cells M2 96)).heap[w1.heap.size + 1]? = some (.cells M2 96 (0, 0)) := heap_alloc2_new _ _ _
  have cb : ((w1.alloc (.cells M1 96)).alloc (.cells M2 96)).cell? ⟨w1.heap.size, 1, none⟩ = some (.int .i64 b) := by
    rw [Joins.cell_of_block hm1 1, HM1.out]; rfl
  have A1 := Lib.hid hm1
  have A2 := Lib.hid hm2
  clear hb1 cu cv hm1 hm2
  go_wp2_with (refine wpList_store_under w1 (.cells zeros 96) rfl 96 _ _ rfl M1 rfl rfl 96 zeros HI1.out HZ1.out HO1.out ?_; refine Hid.out ?_)
  refine Lib.hid ?_
  go_wp2_with (refine wpList_store_new2 w1 (.cells M1 96) rfl 96 _ _ rfl M2 rfl rfl 96 zeros HI2.out HZ2.out HO2.out ?_; refine Hid.out ?_)
  refine Lib.hid ?_
  go_wp2_with fail
  refine (exists_2 _).mono ?_
  rintro e w' ⟨rfl, rfl⟩
  go_wp2
  go_loopw [29] (fun yv wr => ∃ y : Nat, y ≤ b ∧ yv = .int .i64 y ∧ wr.heap[w1.heap.size]? = some (.cells (mat a b (joG jW2 g h y)) 96 (0, 0)) ∧ wr.heap[w1.heap.size + 1]? = some (.cells (mat (row0 tt).size tt.length h) 96 (0, 0)) ∧ Below w1.heap.size w1 wr) (fun yv _ => b - (intOf yv).toNat)
  case atStart => exact ⟨0, Nat.zero_le _, rfl, by rw [joG_zero, ← HM1.out]; exact A1.out, by rw [← HM2.out]; exact A2.out, Joins.below_alloc2 _ _ _⟩
  case round =>
    clear cb
    obtain ⟨y, hy, rfl, hm, hn, hbel⟩ := hrel
    by_cases hlt : y < b
    · have kyb : (y : Int) < (b : Int) := by omega
      have ky16 : (y : Int) < 16 := by omega
      have cy : wr.cell? ⟨w1.heap.size, 2 + y, none⟩ = some (.int .u32 (g y)) := by
        rw [Joins.cell_of_block hm (2 + y)]
        have := mcells_word a b (fun j => ((joG jW2 g h y j : Nat) : Int)) y (by omega)
        unfold mat
        rw [this]
        unfold joG
        rw [if_neg (by omega)]
      have dy : wr.cell? ⟨w1.heap.size + 1, 2 + y, none⟩ = some (.int .u32 (h y)) := by
        rw [Joins.cell_of_block hn (2 + y)]; exact mcells_word _ _ _ y (by omega)
      have fz : wr.frozen? ⟨w1.heap.size, 2 + y, none⟩ = false := Joins.unfrozen_of_block hm _
      have hnx := Lib.heap_setCell_same (i := 2 + y) hm (.int .u32 ((jW2 (g y) (h y) : Nat) : Int))
      rw [mat_put a b _ y (by omega), joG_step] at hnx
      have HX := Lib.hid hnx
      have HN2' := Lib.hid hn
      have HB := Lib.hid hbel
      have hj := HJ.out y
      obtain ⟨X, hX⟩ : ∃ X, g y = X := ⟨_, rfl⟩
      obtain ⟨Y, hY⟩ : ∃ Y, h y = Y := ⟨_, rfl⟩
      obtain ⟨Z, hZ⟩ : ∃ Z, jW2 X Y = Z := ⟨_, rfl⟩
      rw [hX] at cy hj HX
      rw [hY] at dy hj HX
      rw [hZ] at hj HX
      have HJy := Lib.hid hj
      clear hm hn hbel hnx hj hX hY hZ
      go_wp2
      go_region_with (go_at_call 85; refine (HJy.out _).mono ?_; rintro e w' ⟨rfl, rfl⟩)
      all_goals go_wp2
      all_goals (refine ⟨⟨y + 1, by omega, by go_num, HX.out, (Below.heap_setCell _ ⟨w1.heap.size, 2 + y, none⟩ _ _ (by show w1.heap.size + 1 ≠ w1.heap.size; omega)).trans HN2'.out, by first | exact HB.out.setCell (p := ⟨w1.heap.size, 2 + y, none⟩) (Nat.le_refl _) _ | exact (HB.out.setCell (p := ⟨w1.heap.size, 2 + y, none⟩) (Nat.le_refl _) _).drew⟩, by simp [intOf]; omega⟩)
    · obtain rfl : y = b := by omega
      have M3 := Lib.hid hm
      have B3 : Hid (Below w.heap.size w wr) := B1.out.trans (hbel.mono hs1)
      have P3 := Lib.hid ((hbel.block (w.heap.size + 1 + 1) hl1).trans P1.out)
      obtain ⟨M3c, hM3⟩ : ∃ M3c, mat a y (joG jW2 g h y) = M3c := ⟨_, rfl⟩
      have hsz2 : M3c.size = 18 := by rw [← hM3]; rfl
      have HI3 : Hid ((Tryd.prog.info? 96).map (·.size) = some M3c.size) := by show _ = _; rw [hsz2]; exact infoM
      rw [hM3] at M3 HPi
      clear hm hn hbel hM3 hsz2
      go_wp2_with (refine wpList_load_row rfl 96 _ rfl w1.heap.size rfl 96 M3c (0, 0) _ M3.out Tryd.underlying96 rfl HI3.out ?_)
      refine (HPi.out _).mono ?_
      rintro e w4 ⟨g4, cap4, rfl, hown4, hb4⟩
      have hp2 := (hb4.block (w.heap.size + 1 + 1) (Array.getElem?_eq_some_iff.1 P3.out).1).trans P3.out
      have hfr : w4.frozen? ⟨w.heap.size + 1 + 1, 0, none⟩ = false := free_of_one hp2
      have hc2 : w4.cell? ⟨w.heap.size + 1 + 1, 0, none⟩ = some (.slice none 0 0) := cell_of_one hp2
      have O2 := Lib.hid (own_set (u := .slice (some ⟨g4, 0, none⟩) pic.length cap4) hown4 hp2 (by decide))
      have P4 := Lib.hid hp2
      have B4 := Lib.hid (B3.out.trans (hb4.mono B3.out.size))
      have hs3 := B3.out.size
      clear hown4 hp2 hb4
      go_wp2_with fail
      refine bodyPost_ret (v := .tuple #[.agg #[.slice (some ⟨g4, 0, none⟩) pic.length cap4], .bool true]) (by simp [results, Tryd.results30, go_sem, cell_of_one (one_setCell P4.out)]) rfl ⟨_, _, _, rfl, Joins.ownsRow_le O2.out hs3, B4.out.setCell (by simp; omega) _⟩

set_option maxHeartbeats 2000000 in
set_option maxRecDepth 100000 in
theorem impl_Join_3 (u v : Value) (ss tt : List ByteArray) (w : World) (hN : ss.length ≤ maxLen) (hz : ∀ s ∈ ss, s.size ≤ maxLen) (hu : Sl w u ss) (hN2 : tt.length ≤ maxLen) (hz2 : ∀ s ∈ tt, s.size ≤ maxLen) (hv : Sl w v tt) (he : ErrLen w) (hok : likeB ss tt = true) :
    Calls Tryd.prog 30 #[.int .i64 3, .agg #[u], .agg #[v]] w (SaysPic (mkPic (row0 ss).size ss.length (joF jF3 ss tt)) true w) := by
  have hb0 : Below w.heap.size w (((w.alloc (.cells #[u] 42)).alloc (.cells #[v] 42)).alloc (.cells #[.slice none 0 0] 42)) := Joins.below_alloc3 w _ _ _
  have hl1 : (((w.alloc (.cells #[u] 42)).alloc (.cells #[v] 42)).alloc (.cells #[.slice none 0 0] 42)).heap[w.heap.size]? = some (.cells #[u] 42 (0, 0)) := by
    rw [Below.heap_alloc _ _ _ (by simp; try omega), Below.heap_alloc _ _ _ (by simp)]; exact heap_alloc_last w _
  have hl2 : (((w.alloc (.cells #[u] 42)).alloc (.cells #[v] 42)).alloc (.cells #[.slice none 0 0] 42)).heap[w.heap.size + 1]? = some (.cells #[v] 42 (0, 0)) := by
    rw [Below.heap_alloc _ _ _ (by simp; try omega)]; exact heap_alloc2_new _ _ _
  have hl3 : (((w.alloc (.cells #[u] 42)).alloc (.cells #[v] 42)).alloc (.cells #[.slice none 0 0] 42)).heap[w.heap.size + 1 + 1]? = some (.cells #[.slice none 0 0] 42 (0, 0)) := by
    have := heap_alloc_last ((w.alloc (.cells #[u] 42)).alloc (.cells #[v] 42)) (.cells #[.slice none 0 0] 42)
    simpa using this
  have L3 := Lib.hid hl3
  have cu : (((w.alloc (.cells #[u] 42)).alloc (.cells #[v] 42)).alloc (.cells #[.slice none 0 0] 42)).cell? ⟨w.heap.size, 0, none⟩ = some u := cell_of_one hl1
  have cv : (((w.alloc (.cells #[u] 42)).alloc (.cells #[v] 42)).alloc (.cells #[.slice none 0 0] 42)).cell? ⟨w.heap.size + 1, 0, none⟩ = some v := cell_of_one hl2
  have C := Lib.hid (matricesOf_yes u v ss tt _ hN hz (hu.below hb0) hN2 hz2 (hv.below hb0) (he.below hb0) hok)
  have h4 := hok
  unfold likeB at h4
  simp only [Bool.and_eq_true, decide_eq_true_eq] at h4
  obtain ⟨⟨⟨v1, v2⟩, e1⟩, e2⟩ := h4
  have V1 := vp_of v1
  have V2 := vp_of v2
  have hw16 := V1.w16
  have hn16 := V1.n16
  have s1 := matC_size ss
  have o1 := matC_one ss
  have m1 := matC_yes v1
  have s2 := matC_size tt
  have o2 := matC_one tt
  have m2 := matC_yes v2
  obtain ⟨M1, hM1⟩ : ∃ M, matC ss = M := ⟨_, rfl⟩
  obtain ⟨M2, hM2⟩ : ∃ M, matC tt = M := ⟨_, rfl⟩
  rw [hM1] at C s1 o1 m1
  rw [hM2] at C s2 o2 m2
  have HI1 : Hid ((Tryd.prog.info? 96).map (·.size) = some M1.size) := by show _ = _; rw [s1]; exact infoM
  have HI2 : Hid ((Tryd.prog.info? 96).map (·.size) = some M2.size) := by show _ = _; rw [s2]; exact infoM
  have HZ1 := Lib.hid (zeros_size.trans s1.symm)
  have HZ2 := Lib.hid (zeros_size.trans s2.symm)
  have HO1 := Lib.hid o1
  have HO2 := Lib.hid o2
  have HPi : Hid (∀ W, Calls Tryd.prog 99 #[.agg (mat (row0 ss).size ss.length (joG jW3 (wordsOf ss) (wordsOf tt) ss.length))] W (TookPic W (mkPic (row0 ss).size ss.length (joF jF3 ss tt)))) := fun W => by
    have := picture_any (mat (row0 ss).size ss.length (joG jW3 (wordsOf ss) (wordsOf tt) ss.length)) _ _ _ W rfl hw16 hn16 (fun j => joG_lt jL3 (fun j => words_lt V1 j) (fun j => words_lt V2 j) _ j)
    rwa [mkPic_congr fun y hy x hx => jo_bits jB3 V1 V2 e1 e2 y x hy hx] at this
  have HJ : Hid (∀ j W, Calls Tryd.prog 85 #[.int .i64 3, .int .u32 (wordsOf ss j), .int .u32 (wordsOf tt j)] W fun e w' => e = .returned (.int .u32 (jW3 (wordsOf ss j) (wordsOf tt j))) ∧ W = w') := fun j W => join_3 _ _ W (words_lt V1 j) (words_lt V2 j)
  obtain ⟨pic, hpic⟩ : ∃ x, mkPic (row0 ss).size ss.length (joF jF3 ss tt) = x := ⟨_, rfl⟩
  rw [hpic] at HPi ⊢
  obtain ⟨g, hg⟩ : ∃ g, wordsOf ss = g := ⟨_, rfl⟩
  obtain ⟨h, hh⟩ : ∃ g, wordsOf tt = g := ⟨_, rfl⟩
  rw [hg] at m1 HPi HJ
  rw [hh] at m2 HPi HJ
  obtain ⟨a, ha⟩ : ∃ a, (row0 ss).size = a := ⟨_, rfl⟩
  obtain ⟨b, hbb⟩ : ∃ b, ss.length = b := ⟨_, rfl⟩
  rw [ha] at HPi m1 hw16
  rw [hbb] at HPi m1 hn16
  have HM1 := Lib.hid m1
  have HM2 := Lib.hid m2
  clear s1 s2 o1 o2 m1 m2 hM1 hM2 hok hl1 hl2 hl3 hu hv hb0 he v1 v2 e1 e2 V1 V2 hg hh ha hbb hpic
  go_enter Tryd.func30, Tryd.ntmps30
  go_wp2_with fail
  refine C.out.mono ?_
  rintro e w1 ⟨rfl, hb1⟩
  have B1 : Hid (Below w.heap.size w w1) := (Joins.below_alloc3 w _ _ _).trans (hb1.mono (by simp; omega))
  have P1 := Lib.hid ((hb1.block (w.heap.size + 1 + 1) (by simp)).trans L3.out)
  have hs1 := B1.out.size
  have hl1 : w.heap.size + 1 + 1 < w1.heap.size := (Array.getElem?_eq_some_iff.1 P1.out).1
  have hm1 : ((w1.alloc (.cells M1 96)).alloc (.cells M2 96)).heap[w1.heap.size]? = some (.cells M1 96 (0, 0)) := by
    rw [Below.heap_alloc _ _ _ (by simp)]; exact heap_alloc_last w1 _
  have hm2 : ((w1.alloc (.cells M1 96)).alloc (.cells M2 96)).heap[w1.heap.size + 1]? = some (.cells M2 96 (0, 0)) := heap_alloc2_new _ _ _
  have cb : ((w1.alloc (.cells M1 96)).alloc (.cells M2 96)).cell? ⟨w1.heap.size, 1, none⟩ = some (.int .i64 b) := by
    rw [Joins.cell_of_block hm1 1, HM1.out]; rfl
  have A1 := Lib.hid hm1
  have A2 := Lib.hid hm2
  clear hb1 cu cv hm1 hm2
  go_wp2_with (refine wpList_store_under w1 (.cells zeros 96) rfl 96 _ _ rfl M1 rfl rfl 96 zeros HI1.out HZ1.out HO1.out ?_; refine Hid.out ?_)
  refine Lib.hid ?_
  go_wp2_with (refine wpList_store_new2 w1 (.cells M1 96) rfl 96 _ _ rfl M2 rfl rfl 96 zeros HI2.out HZ2.out HO2.out ?_; refine Hid.out ?_)
  refine Lib.hid ?_
  go_wp2_with fail
  refine (exists_3 _).mono ?_
  rintro e w' ⟨rfl, rfl⟩
  go_wp2
  go_loopw [29] (fun yv wr => ∃ y : Nat, y ≤ b ∧ yv = .int .i64 y ∧ wr.heap[w1.heap.size]? = some (.cells (mat a b (joG jW3 g h y)) 96 (0, 0)) ∧ wr.heap[w1.heap.size + 1]? = some (.cells (mat (row0 tt).size tt.length h) 96 (0, 0)) ∧ Below w1.heap.size w1 wr) (fun yv _ => b - (intOf yv).toNat)
  case atStart => exact ⟨0, Nat.zero_le _, rfl, by rw [joG_zero, ← HM1.out]; exact A1.out, by rw [← HM2.out]; exact A2.out, Joins.below_alloc2 _ _ _⟩
  case round =>
    clear cb
    obtain ⟨y, hy, rfl, hm, hn, hbel⟩ := hrel
    by_cases hlt : y < b
    · have kyb : (y : Int) < (b : Int) := by omega
      have ky16 : (y : Int) < 16 := by omega
      have cy : wr.cell? ⟨w1.heap.size, 2 + y, none⟩ = some (.int .u32 (g y)) := by
        rw [Joins.cell_of_block hm (2 + y)]
        have := mcells_word a b (fun j => ((joG jW3 g h y j : Nat) : Int)) y (by omega)
        unfold mat
        rw [this]
        unfold joG
        rw [if_neg (by omega)]
      have dy : wr.cell? ⟨w1.heap.size + 1, 2 + y, none⟩ = some (.int .u32 (h y)) := by
        rw [Joins.cell_of_block hn (2 + y)]; exact mcells_word _ _ _ y (by omega)
      have fz : wr.frozen? ⟨w1.heap.size, 2 + y, none⟩ = false := Joins.unfrozen_of_block hm _
      have hnx := Lib.heap_setCell_same (i := 2 + y) hm (.int .u32 ((jW3 (g y) (h y) : Nat) : Int))
      rw [mat_put a b _ y (by omega), joG_step] at hnx
      have HX := Lib.hid hnx
      have HN2' := Lib.hid hn
      have HB := Lib.hid hbel
      have hj := HJ.out y
      obtain ⟨X, hX⟩ : ∃ X, g y = X := ⟨_, rfl⟩
      obtain ⟨Y, hY⟩ : ∃ Y, h y = Y := ⟨_, rfl⟩
      obtain ⟨Z, hZ⟩ : ∃ Z, jW3 X Y = Z := ⟨_, rfl⟩
      rw [hX] at cy hj HX
      rw [hY] at dy hj HX
      rw [hZ] at hj HX
      have HJy := Lib.hid hj
      clear hm hn hbel hnx hj hX hY hZ
      go_wp2
      go_region_with (go_at_call 85; refine (HJy.out _).mono ?_; rintro e w' ⟨rfl, rfl⟩)
      all_goals go_wp2
      all_goals (refine ⟨⟨y + 1, by omega, by go_num, HX.out, (Below.heap_setCell _ ⟨w1.heap.size, 2 + y, none⟩ _ _ (by show w1.heap.size + 1 ≠ w1.heap.size; omega)).trans HN2'.out, by first | exact HB.out.setCell (p := ⟨w1.heap.size, 2 + y, none⟩) (Nat.le_refl _) _ | exact (HB.out.setCell (p := ⟨w1.heap.size, 2 + y, none⟩) (Nat.le_refl _) _).drew⟩, by simp [intOf]; omega⟩)
    · obtain rfl : y = b := by omega
      have M3 := Lib.hid hm
      have B3 : Hid (Below w.heap.size w wr) := B1.out.trans (hbel.mono hs1)
      have P3 := Lib.hid ((hbel.block (w.heap.size + 1 + 1) hl1).trans P1.out)
      obtain ⟨M3c, hM3⟩ : ∃ M3c, mat a y (joG jW3 g h y) = M3c := ⟨_, rfl⟩
      have hsz2 : M3c.size = 18 := by rw [← hM3]; rfl
      have HI3 : Hid ((Tryd.prog.info? 96).map (·.size) = some M3c.size) := by show _ = _; rw [hsz2]; exact infoM
      rw [hM3] at M3 HPi
      clear hm hn hbel hM3 hsz2
      go_wp2_with (refine wpList_load_row rfl 96 _ rfl w1.heap.size rfl 96 M3c (0, 0) _ M3.out Tryd.underlying96 rfl HI3.out ?_)
      refine (HPi.out _).mono ?_
      rintro e w4 ⟨g4, cap4, rfl, hown4, hb4⟩
      have hp2 := (hb4.block (w.heap.size + 1 + 1) (Array.getElem?_eq_some_iff.1 P3.out).1).trans P3.out
      have hfr : w4.frozen? ⟨w.heap.size + 1 + 1, 0, none⟩ = false := free_of_one hp2
      have hc2 : w4.cell? ⟨w.heap.size + 1 + 1, 0, none⟩ = some (.slice none 0 0) := cell_of_one hp2
      have O2 := Lib.hid (own_set (u := .slice (some ⟨g4, 0, none⟩) pic.length cap4) hown4 hp2 (by decide))
      have P4 := Lib.hid hp2
      have B4 := Lib.hid (B3.out.trans (hb4.mono B3.out.size))
      have hs3 := B3.out.size
      clear hown4 hp2 hb4
      go_wp2_with fail
      refine bodyPost_ret (v := .tuple #[.agg #[.slice (some ⟨g4, 0, none⟩) pic.length cap4], .bool true]) (by simp [results, Tryd.results30, go_sem, cell_of_one (one_setCell P4.out)]) rfl ⟨_, _, _, rfl, Joins.ownsRow_le O2.out hs3, B4.out.setCell (by simp; omega) _⟩
end Go.Proofs.YtabkkpifkkgpeaaDoor

/- Contracts of single functions, and plain lemmas, on which the exact laws of this seat rest; each holds under the conditions that it states. -/
namespace Go.Proofs.YtabkkpifkkgpeaaDoor
set_option linter.unusedVariables false
set_option linter.unusedSimpArgs false
open Go.RowKit
attribute [local go_sem] Oper.semAt_some

def jFn (o : Nat) : Bool → Bool → Bool := if o = 0 then jF0 else if o = 1 then jF1 else if o = 2 then jF2 else jF3
theorem mem_size {ss : List ByteArray} (hok : validB ss = true) : ∀ s ∈ ss, s.size ≤ maxLen := by
  have V := vp_of hok
  intro s hs
  obtain ⟨j, hj, rfl⟩ := List.getElem_of_mem hs
  have h1 := (V.rows j hj).1
  have h2 := V.w16
  rw [List.getD_eq_getElem?_getD, List.getElem?_eq_getElem hj] at h1
  have h3 : (ss[j]'hj).size = (row0 ss).size := h1
  unfold maxLen; omega
theorem len_max {ss : List ByteArray} (hok : validB ss = true) : ss.length ≤ maxLen := by
  have := (vp_of hok).n16
  unfold maxLen; omega
theorem impl_Join_op (o : Nat) (u v : Value) (ss tt : List ByteArray) (w : World) (ho : o < 4) (hu : Sl w u ss) (hv : Sl w v tt) (he : ErrLen w) (hok : likeB ss tt = true) (h1 : validB ss = true) (h2 : validB tt = true) :
    Calls Tryd.prog 30 #[.int .i64 (o : Int), .agg #[u], .agg #[v]] w (SaysPic (mkPic (row0 ss).size ss.length (joF (jFn o) ss tt)) true w) := by
  rcases (by omega : o = 0 ∨ o = 1 ∨ o = 2 ∨ o = 3) with rfl | rfl | rfl | rfl
  · exact impl_Join_0 u v ss tt w (len_max h1) (mem_size h1) hu (len_max h2) (mem_size h2) hv he hok
  · exact impl_Join_1 u v ss tt w (len_max h1) (mem_size h1) hu (len_max h2) (mem_size h2) hv he hok
  · exact impl_Join_2 u v ss tt w (len_max h1) (mem_size h1) hu (len_max h2) (mem_size h2) hv he hok
  · exact impl_Join_3 u v ss tt w (len_max h1) (mem_size h1) hu (len_max h2) (mem_size h2) hv he hok
theorem like_mk (a b : Nat) (f g : Nat → Nat → Bool) (ha : 1 ≤ a ∧ a ≤ 16) (hb : 1 ≤ b ∧ b ≤ 16) : likeB (mkPic a b f) (mkPic a b g) = true := by
  unfold likeB
  rw [mkPic_valid a b f ha hb, mkPic_valid a b g ha hb, mkPic_row0 _ _ _ hb.1, mkPic_row0 _ _ _ hb.1, mkPic_len, mkPic_len, decide_eq_true rfl, decide_eq_true rfl]
  rfl

set_option maxHeartbeats 8000000 in
set_option maxRecDepth 100000 in
theorem law_FnJoins (v0 v1 : Value) (ns ms : List Nat) (w : World) (hv0 : SlY w v0 ns) (hv1 : SlY w v1 ms) (hl0 : ns.length ≤ maxLen) (hl1 : ms.length ≤ maxLen) (hby0 : ∀ i, ns.getD i 0 < 256) (hby1 : ∀ i, ms.getD i 0 < 256) (he : ErrLen w) :
    Calls Tryd.prog 6 #[v0, v1] w fun e w' => e = .returned (.bool true) ∧ Below w.heap.size w w' := by
  have CL := Lib.hid (b10Long_any v0 v1 ns ms w hv0 hv1)
  obtain ⟨lg, hlg⟩ : ∃ x, (decide (1048576 < ns.length) || decide (1048576 < ms.length)) = x := ⟨_, rfl⟩
  rw [hlg] at CL
  clear hlg
  have CA := Lib.hid (fun W (hb : Below w.heap.size w W) => b10At_any v1 ms 0 4 W (hv1.below hb) hby1 hl1 (by omega) (by omega))
  have hop := b10F_lt ms 0 4 (by omega)
  obtain ⟨op, hopp⟩ : ∃ x, b10F ms 0 4 = x := ⟨_, rfl⟩
  rw [hopp] at CA hop
  have CA' : Hid (∀ W, Below w.heap.size w W → Calls Tryd.prog 29 #[v1, .int .i64 0, .int .i64 4] W (fun e w' => e = .returned (.int .i64 (op : Int)) ∧ W = w')) := CA
  have CB := Lib.hid (fun W (hb : Below w.heap.size w W) => B10Picture_any v0 ns W (hv0.below hb) hby0 hl0)
  have CK := Lib.hid (fun u ss W (hb : Below w.heap.size w W) (hs : Sl W u ss) (hok : validB ss = true) => B10Like_any v1 u ms ss W (hv1.below hb) hby1 hl1 hs hok)
  have HE : Hid (∀ W, Below w.heap.size w W → ErrLen W) := fun W hb => he.below hb
  obtain ⟨ao, capA0, rfl⟩ := hv0.form
  obtain ⟨ao1, capA1, rfl⟩ := hv1.form
  have B0 := Lib.hid (Below.refl w.heap.size w)
  clear hv0 hv1 hl0 hl1 hby0 hby1 he CA hopp
  cases lg with
  | true =>
    go_enter Tryd.func6, Tryd.ntmps6
    go_wp2_with fail
    refine CL.out.mono ?_
    rintro e w9 ⟨rfl, rfl⟩
    go_wp2_with fail
    go_ret
    exact ⟨rfl, B0.out⟩
  | false =>
    go_enter Tryd.func6, Tryd.ntmps6
    go_wp2_with fail
    refine CL.out.mono ?_
    rintro e w9 ⟨rfl, rfl⟩
    go_wp2_with fail
    refine (CB.out w B0.out).mono ?_
    rintro e u1 ⟨a, b, ha7, hb7, f, g1, cap1, rfl, hown, hb⟩
    have hsl := OwnP.sl hown
    have B1 := Lib.hid ((B0.out.trans (hb.mono B0.out.size)).alloc (B0.out.trans (hb.mono B0.out.size)).size (.cells #[.slice (some ⟨g1, 0, none⟩) b cap1] 42))
    have P_p1 := Lib.hid (PV.new hsl)
    obtain ⟨W1, hW⟩ : ∃ W, u1.alloc (.cells #[.slice (some ⟨g1, 0, none⟩) b cap1] 42) = W := ⟨_, rfl⟩
    obtain ⟨b_p, hq⟩ : ∃ q, u1.heap.size = q := ⟨_, rfl⟩
    rw [hW] at B1 P_p1
    rw [hq] at P_p1
    have EW1 := Lib.hid hW
    have EQ1 := Lib.hid hq
    clear hW hq hsl hown hb  
    have hA : 1 ≤ a ∧ a ≤ 16 := by omega
    have hB : 1 ≤ b ∧ b ≤ 16 := by omega
    have VM := Lib.hid (fun f => mkPic_valid a b f hA hB)
    have R0 := Lib.hid (fun f => mkPic_row0 a b f hB.1)
    have LM := Lib.hid (fun f g => like_mk a b f g hA hB)
    have HBL : Hid (∀ u f W, Below w.heap.size w W → Sl W u (mkPic a b f) → Calls Tryd.prog 28 #[.slice ao1 ms.length capA1, .agg #[u]] W (SomePic a b W)) := fun u f W hb hs => by
      have := CK.out u (mkPic a b f) W hb hs (VM.out f)
      rw [R0.out, mkPic_len] at this
      exact this
    clear CK CB
    have c_p : (u1.alloc (.cells #[.slice (some ⟨g1, 0, none⟩) b cap1] 42)).cell? ⟨u1.heap.size, 0, none⟩ = some (.slice (some ⟨g1, 0, none⟩) b cap1) := by
      rw [EW1.out, EQ1.out]
      exact P_p1.out.cell
    go_wp2_with fail
    rw [EW1.out, EQ1.out]
    refine (HBL.out _ f W1 B1.out P_p1.out.sl).mono ?_
    rintro e u2 ⟨k, g2, cap2, rfl, hown, hb⟩
    have hsl := OwnP.sl hown
    have B2 := Lib.hid ((B1.out.trans (hb.mono B1.out.size)).alloc (B1.out.trans (hb.mono B1.out.size)).size (.cells #[.slice (some ⟨g2, 0, none⟩) b cap2] 42))
    have P_p2 := Lib.hid ((P_p1.out.below hb).alloc (.cells #[.slice (some ⟨g2, 0, none⟩) b cap2] 42))
    have P_q2 := Lib.hid (PV.new hsl)
    obtain ⟨W2, hW⟩ : ∃ W, u2.alloc (.cells #[.slice (some ⟨g2, 0, none⟩) b cap2] 42) = W := ⟨_, rfl⟩
    obtain ⟨b_q, hq⟩ : ∃ q, u2.heap.size = q := ⟨_, rfl⟩
    rw [hW] at B2 P_p2 P_q2
    rw [hq] at P_q2
    have EW2 := Lib.hid hW
    have EQ2 := Lib.hid hq
    clear hW hq hsl hown hb c_p P_p1
    go_wp2_with fail
    rw [EW2.out, EQ2.out]
    refine (CA'.out W2 B2.out).mono ?_
    rintro e w9 ⟨rfl, rfl⟩
    have CJ : Hid (∀ (o : Nat) u v f k W, o < 4 → Below w.heap.size w W → Sl W u (mkPic a b f) → Sl W v (mkPic a b k) → Calls Tryd.prog 30 #[.int .i64 (o : Int), .agg #[u], .agg #[v]] W (SaysPic (mkPic a b (joF (jFn o) (mkPic a b f) (mkPic a b k))) true W)) := fun o u v f k W ho hb hu hv => by
      have := impl_Join_op o u v _ _ W ho hu hv (HE.out W hb) (LM.out f k) (VM.out f) (VM.out k)
      rw [R0.out, mkPic_len] at this
      exact this
    have CJ3 : Hid (∀ u v f k W, Below w.heap.size w W → Sl W u (mkPic a b f) → Sl W v (mkPic a b k) → Calls Tryd.prog 30 #[.int .i64 3, .agg #[u], .agg #[v]] W (SaysPic (mkPic a b (joF jF3 (mkPic a b f) (mkPic a b k))) true W)) := fun u v f k W hb hu hv => CJ.out 3 u v f k W (by omega) hb hu hv
    have CC : Hid (∀ u f W, Below w.heap.size w W → Sl W u (mkPic a b f) → Calls Tryd.prog 31 #[.agg #[u]] W (SaysIB (cbV (mkPic a b f)) true W)) := fun u f W hb hu => by
      have := impl_Count u (mkPic a b f) W (len_max (VM.out f)) (mem_size (VM.out f)) hu (HE.out W hb)
      rw [VM.out f] at this
      exact this
    have CV : Hid (∀ u f W, Below w.heap.size w W → Sl W u (mkPic a b f) → Calls Tryd.prog 32 #[.agg #[u]] W (SaysPic (mkPic a b (invF (mkPic a b f))) true W)) := fun u f W hb hu => by
      have := impl_Inv_yes u (mkPic a b f) W (len_max (VM.out f)) (mem_size (VM.out f)) hu (HE.out W hb) (VM.out f)
      rw [R0.out, mkPic_len] at this
      exact this
    have CI : Hid (∀ u v f k W, Below w.heap.size w W → Sl W u (mkPic a b f) → Sl W v (mkPic a b k) → Calls Tryd.prog 34 #[.agg #[u], .agg #[v]] W (SaysB (insideP (mkPic a b f) (mkPic a b k)) W)) := fun u v f k W hb hu hv => impl_Inside u v _ _ W (len_max (VM.out f)) (mem_size (VM.out f)) hu (len_max (VM.out k)) (mem_size (VM.out k)) hv (HE.out W hb)
    have CS : Hid (∀ x y f W, Sl W x (mkPic a b f) → Sl W y (mkPic a b f) → Calls Tryd.prog 33 #[.agg #[x], .agg #[y]] W (SaysB true W)) := fun x y f W hx hy => b10Same_yes x y _ W hx hy (by rw [mkPic_len]; exact hB.1) (by rw [mkPic_len]; exact hB.2)
    have CBk : Hid (∀ v f (x y : Nat) W, x < a → y < b → Sl W v (mkPic a b f) → Calls Tryd.prog 26 #[.agg #[v], .int .i64 (x : Int), .int .i64 (y : Int)] W (SaysB (f y x) W)) := fun v f x y W hx hy hs => by
      have := b10Black_any v (mkPic a b f) (x : Int) (y : Int) W hs (VM.out f)
      rw [pixI_mk hx hy] at this
      exact this
    have hmk : ∀ h1 h2 : Nat → Nat → Bool, (∀ y, y < b → ∀ x, x < a → h1 y x = h2 y x) → mkPic a b h1 = mkPic a b h2 := fun h1 h2 h => mkPic_congr h
    have hinv : mkPic a b (invF (mkPic a b (invF (mkPic a b f)))) = mkPic a b f := hmk _ _ fun y hy x hx => by
      unfold invF
      rw [mkPic_pix a b _ hy hx]
      show (!(!pixF (mkPic a b f) y x)) = f y x
      rw [mkPic_pix a b _ hy hx, Bool.not_not]
    have hjo : ∀ o, mkPic a b (joF (jFn o) (mkPic a b f) (mkPic a b k)) = mkPic a b (fun y x => jFn o (f y x) (k y x)) := fun o => hmk _ _ fun y hy x hx => by
      unfold joF
      rw [mkPic_pix a b _ hy hx, mkPic_pix a b _ hy hx]
    have hj3 : mkPic a b (joF jF3 (mkPic a b f) (mkPic a b k)) = mkPic a b (fun y x => jF3 (f y x) (k y x)) := hjo 3
    have hiv : mkPic a b (invF (mkPic a b f)) = mkPic a b (fun y x => !f y x) := hmk _ _ fun y hy x hx => by
      unfold invF
      rw [mkPic_pix a b _ hy hx]
    have HIn : Hid (insideP (mkPic a b f) (mkPic a b k) = (cbV (mkPic a b (fun y x => jF3 (f y x) (k y x))) == 0)) := by
      show _ = _
      have h1 := inside_iff (LM.out f k)
      have h2 := count_zero (VM.out (fun y x => jF3 (f y x) (k y x)))
      rw [R0.out, mkPic_len] at h1 h2
      rw [Bool.eq_iff_iff, beq_iff_eq, h1, h2]
      constructor
      · intro h y hy x hx
        have h3 := h y hy x hx
        rw [mkPic_pix a b _ hy hx, mkPic_pix a b _ hy hx] at h3
        rw [mkPic_pix a b _ hy hx]
        show (f y x && !k y x) = false
        cases hf : f y x with
        | false => rfl
        | true => rw [h3 hf]; rfl
      · intro h y hy x hx hf
        have h3 := h y hy x hx
        rw [mkPic_pix a b _ hy hx] at hf ⊢
        rw [mkPic_pix a b _ hy hx] at h3
        have h4 : (f y x && !k y x) = false := h3
        rw [hf, Bool.true_and] at h4
        simpa using h4
    clear hmk VM LM R0 HBL
    have c_p := P_p2.out.cell
    have c_q := P_q2.out.cell
    go_wp2_with fail
    refine (CJ.out op _ _ f k W2 hop B2.out P_p2.out.sl P_q2.out.sl).mono ?_
    rintro e u4 ⟨ao3, n3, cap3, rfl, hown, hb⟩
    have hsl := OwnP.sl hown
    have B4 := Lib.hid ((B2.out.trans (hb.mono B2.out.size)).alloc (B2.out.trans (hb.mono B2.out.size)).size (.cells #[.slice ao3 n3 cap3] 42))
    have P_p4 := Lib.hid ((P_p2.out.below hb).alloc (.cells #[.slice ao3 n3 cap3] 42))
    have P_q4 := Lib.hid ((P_q2.out.below hb).alloc (.cells #[.slice ao3 n3 cap3] 42))
    have P_r4 := Lib.hid (PV.new hsl)
    obtain ⟨W4, hW⟩ : ∃ W, u4.alloc (.cells #[.slice ao3 n3 cap3] 42) = W := ⟨_, rfl⟩
    obtain ⟨b_r, hq⟩ : ∃ q, u4.heap.size = q := ⟨_, rfl⟩
    rw [hW] at B4 P_p4 P_q4 P_r4
    rw [hq] at P_r4
    have EW4 := Lib.hid hW
    have EQ4 := Lib.hid hq
    clear hW hq hsl hown hb c_p c_q P_p2 P_q2
    have c_p : (u4.alloc (.cells #[.slice ao3 n3 cap3] 42)).cell? ⟨b_p, 0, none⟩ = some (.slice (some ⟨g1, 0, none⟩) b cap1) := by
      rw [EW4.out]
      exact P_p4.out.cell
    have c_q : (u4.alloc (.cells #[.slice ao3 n3 cap3] 42)).cell? ⟨b_q, 0, none⟩ = some (.slice (some ⟨g2, 0, none⟩) b cap2) := by
      rw [EW4.out]
      exact P_q4.out.cell
    go_wp2_with fail
    rw [EW4.out, EQ4.out]
    refine (CJ3.out _ _ f k W4 B4.out P_p4.out.sl P_q4.out.sl).mono ?_
    rintro e u5 ⟨ao4, n4, cap4, rfl, hown, hb⟩
    have hsl := OwnP.sl hown
    have B5 := Lib.hid ((B4.out.trans (hb.mono B4.out.size)).alloc (B4.out.trans (hb.mono B4.out.size)).size (.cells #[.slice ao4 n4 cap4] 42))
    have P_p5 := Lib.hid ((P_p4.out.below hb).alloc (.cells #[.slice ao4 n4 cap4] 42))
    have P_q5 := Lib.hid ((P_q4.out.below hb).alloc (.cells #[.slice ao4 n4 cap4] 42))
    have P_r5 := Lib.hid ((P_r4.out.below hb).alloc (.cells #[.slice ao4 n4 cap4] 42))
    have P_l5 := Lib.hid (PV.new hsl)
    obtain ⟨W5, hW⟩ : ∃ W, u5.alloc (.cells #[.slice ao4 n4 cap4] 42) = W := ⟨_, rfl⟩
    obtain ⟨b_l, hq⟩ : ∃ q, u5.heap.size = q := ⟨_, rfl⟩
    rw [hW] at B5 P_p5 P_q5 P_r5 P_l5
    rw [hq] at P_l5
    have EW5 := Lib.hid hW
    have EQ5 := Lib.hid hq
    clear hW hq hsl hown hb c_p c_q P_p4 P_q4 P_r4
    rw [hj3] at P_l5
    have c_l : (u5.alloc (.cells #[.slice ao4 n4 cap4] 42)).cell? ⟨u5.heap.size, 0, none⟩ = some (.slice ao4 n4 cap4) := by
      rw [EW5.out, EQ5.out]
      exact P_l5.out.cell
    go_wp2_with fail
    rw [EW5.out, EQ5.out]
    refine (CC.out _ _ W5 B5.out P_l5.out.sl).mono ?_
    rintro e u6 ⟨rfl, hb⟩
    have B6 := Lib.hid (B5.out.trans (hb.mono B5.out.size))
    have P_p6 := Lib.hid (P_p5.out.below hb)
    have P_q6 := Lib.hid (P_q5.out.below hb)
    have P_r6 := Lib.hid (P_r5.out.below hb)
    have P_l6 := Lib.hid (P_l5.out.below hb)
    clear hb c_l P_p5 P_q5 P_r5 P_l5
    have c_p := P_p6.out.cell
    go_wp2_with fail
    refine (CV.out _ _ u6 B6.out P_p6.out.sl).mono ?_
    rintro e u7 ⟨ao5, n5, cap5, rfl, hown, hb⟩
    have hsl := OwnP.sl hown
    have B7 := Lib.hid ((B6.out.trans (hb.mono B6.out.size)).alloc (B6.out.trans (hb.mono B6.out.size)).size (.cells #[.slice ao5 n5 cap5] 42))
    have P_p7 := Lib.hid ((P_p6.out.below hb).alloc (.cells #[.slice ao5 n5 cap5] 42))
    have P_q7 := Lib.hid ((P_q6.out.below hb).alloc (.cells #[.slice ao5 n5 cap5] 42))
    have P_r7 := Lib.hid ((P_r6.out.below hb).alloc (.cells #[.slice ao5 n5 cap5] 42))
    have P_l7 := Lib.hid ((P_l6.out.below hb).alloc (.cells #[.slice ao5 n5 cap5] 42))
    have P_x7 := Lib.hid (PV.new hsl)
    obtain ⟨W7, hW⟩ : ∃ W, u7.alloc (.cells #[.slice ao5 n5 cap5] 42) = W := ⟨_, rfl⟩
    obtain ⟨b_x, hq⟩ : ∃ q, u7.heap.size = q := ⟨_, rfl⟩
    rw [hW] at B7 P_p7 P_q7 P_r7 P_l7 P_x7
    rw [hq] at P_x7
    have EW7 := Lib.hid hW
    have EQ7 := Lib.hid hq
    clear hW hq hsl hown hb c_p P_p6 P_q6 P_r6 P_l6
    have c_x : (u7.alloc (.cells #[.slice ao5 n5 cap5] 42)).cell? ⟨u7.heap.size, 0, none⟩ = some (.slice ao5 n5 cap5) := by
      rw [EW7.out, EQ7.out]
      exact P_x7.out.cell
    go_wp2_with fail
    rw [EW7.out, EQ7.out]
    refine (CV.out _ _ W7 B7.out P_x7.out.sl).mono ?_
    rintro e u8 ⟨ao6, n6, cap6, rfl, hown, hb⟩
    have hsl := OwnP.sl hown
    have B8 := Lib.hid ((B7.out.trans (hb.mono B7.out.size)).alloc (B7.out.trans (hb.mono B7.out.size)).size (.cells #[.slice ao6 n6 cap6] 42))
    have P_p8 := Lib.hid ((P_p7.out.below hb).alloc (.cells #[.slice ao6 n6 cap6] 42))
    have P_q8 := Lib.hid ((P_q7.out.below hb).alloc (.cells #[.slice ao6 n6 cap6] 42))
    have P_r8 := Lib.hid ((P_r7.out.below hb).alloc (.cells #[.slice ao6 n6 cap6] 42))
    have P_l8 := Lib.hid ((P_l7.out.below hb).alloc (.cells #[.slice ao6 n6 cap6] 42))
    have P_x8 := Lib.hid ((P_x7.out.below hb).alloc (.cells #[.slice ao6 n6 cap6] 42))
    have P_y8 := Lib.hid (PV.new hsl)
    obtain ⟨W8, hW⟩ : ∃ W, u8.alloc (.cells #[.slice ao6 n6 cap6] 42) = W := ⟨_, rfl⟩
    obtain ⟨b_y, hq⟩ : ∃ q, u8.heap.size = q := ⟨_, rfl⟩
    rw [hW] at B8 P_p8 P_q8 P_r8 P_l8 P_x8 P_y8
    rw [hq] at P_y8
    have EW8 := Lib.hid hW
    have EQ8 := Lib.hid hq
    clear hW hq hsl hown hb c_x P_p7 P_q7 P_r7 P_l7 P_x7
    rw [hinv] at P_y8
    rw [hiv] at P_x8
    rw [hjo] at P_r8
    have c_y : (u8.alloc (.cells #[.slice ao6 n6 cap6] 42)).cell? ⟨u8.heap.size, 0, none⟩ = some (.slice ao6 n6 cap6) := by
      rw [EW8.out, EQ8.out]
      exact P_y8.out.cell
    have c_p : (u8.alloc (.cells #[.slice ao6 n6 cap6] 42)).cell? ⟨b_p, 0, none⟩ = some (.slice (some ⟨g1, 0, none⟩) b cap1) := by
      rw [EW8.out]
      exact P_p8.out.cell
    go_wp2_with fail
    rw [EW8.out, EQ8.out]
    refine (CS.out _ _ _ W8 P_y8.out.sl P_p8.out.sl).mono ?_
    rintro e u9 ⟨rfl, hb⟩
    have B9 := Lib.hid (B8.out.trans (hb.mono B8.out.size))
    have P_p9 := Lib.hid (P_p8.out.below hb)
    have P_q9 := Lib.hid (P_q8.out.below hb)
    have P_r9 := Lib.hid (P_r8.out.below hb)
    have P_l9 := Lib.hid (P_l8.out.below hb)
    have P_x9 := Lib.hid (P_x8.out.below hb)
    have P_y9 := Lib.hid (P_y8.out.below hb)
    clear hb c_y c_p P_p8 P_q8 P_r8 P_l8 P_x8 P_y8
    have c_p := P_p9.out.cell
    have c_q := P_q9.out.cell
    go_wp2_with fail
    refine (CI.out _ _ _ _ u9 B9.out P_p9.out.sl P_q9.out.sl).mono ?_
    rintro e u10 ⟨rfl, hb⟩
    have B10 := Lib.hid (B9.out.trans (hb.mono B9.out.size))
    have P_p10 := Lib.hid (P_p9.out.below hb)
    have P_q10 := Lib.hid (P_q9.out.below hb)
    have P_r10 := Lib.hid (P_r9.out.below hb)
    have P_l10 := Lib.hid (P_l9.out.below hb)
    have P_x10 := Lib.hid (P_x9.out.below hb)
    have P_y10 := Lib.hid (P_y9.out.below hb)
    clear hb c_p c_q P_p9 P_q9 P_r9 P_l9 P_x9 P_y9
    rw [HIn.out]
    obtain ⟨cn, hcn⟩ : ∃ c, cbV (mkPic a b (fun y x => jF3 (f y x) (k y x))) = c := ⟨_, rfl⟩
    rw [hcn]
    have kbb : ((cn == 0) != (cn == 0)) = false := by simp
    have hn3 : n3 = b := by rw [P_r10.out.sl.len, mkPic_len]
    subst hn3
    have HP := Lib.hid (fun W (hb : Below u10.heap.size u10 W) => And.intro (P_p10.out.below hb) (And.intro (P_q10.out.below hb) (And.intro (P_r10.out.below hb) (P_x10.out.below hb))))
    have HR : Hid (∀ W, Below u10.heap.size u10 W → W.cell? ⟨g1, 0, none⟩ = some (.string (row0 (mkPic a n3 f)))) := fun W hb => (P_p10.out.below hb).sl.row 0 (by rw [mkPic_len]; omega)
    have hs0 : (row0 (mkPic a n3 f)).size = a := mkPic_row0 _ _ _ hB.1
    obtain ⟨s0, hs0e⟩ : ∃ s, row0 (mkPic a n3 f) = s := ⟨_, rfl⟩
    rw [hs0e] at HR hs0
    have hop4 : op = 0 ∨ op = 1 ∨ op = 2 ∨ op = 3 := by omega
    have HOp := Lib.hid hop4
    have HBe := B10
    clear hcn hs0e HIn hj3 hjo hiv hinv CI CS CV CC CJ CJ3 CA' CL P_p10 P_q10 P_r10 P_l10 P_x10 P_y10 B10 hop4
    go_wp2_with fail
    go_loopw [18] (fun iv wr => ∃ y : Nat, y ≤ n3 ∧ iv = .int .i64 (y : Int) ∧ Hid (Below u10.heap.size u10 wr)) (fun iv _ => n3 - (intOf iv).toNat)
    case atStart => exact ⟨0, Nat.zero_le _, rfl, Lib.hid (Below.refl _ _)⟩
    case round =>
      obtain ⟨y, hyb, rfl, HY⟩ := hrel
      have c_p := (HP.out _ HY.out).1.cell
      by_cases hlt : y < n3
      · have ky : (y : Int) < (n3 : Int) := by omega
        go_wp2_with fail
        clear c_p
        go_loopw [19] (fun iv wr => ∃ x : Nat, x ≤ a ∧ iv = .int .i64 (x : Int) ∧ Hid (Below u10.heap.size u10 wr)) (fun iv _ => a - (intOf iv).toNat)
        case atStart => exact ⟨0, Nat.zero_le _, rfl, HY⟩
        case round =>
          clear HY
          obtain ⟨x, hxa, rfl, HX⟩ := hrel
          have c_p := (HP.out _ HX.out).1.cell
          have c_s := HR.out _ HX.out
          have k0 : (0 : Int) < (n3 : Int) := by omega
          by_cases hxl : x < a
          · have kx : (x : Int) < (a : Int) := by omega
            have C1 := Lib.hid (fun W (hb : Below u10.heap.size u10 W) => CBk.out _ f x y W hxl hlt (HP.out W hb).1.sl)
            have C2 := Lib.hid (fun W (hb : Below u10.heap.size u10 W) => CBk.out _ k x y W hxl hlt (HP.out W hb).2.1.sl)
            have C3 := Lib.hid (fun W (hb : Below u10.heap.size u10 W) => CBk.out _ _ x y W hxl hlt (HP.out W hb).2.2.1.sl)
            have C4 := Lib.hid (fun W (hb : Below u10.heap.size u10 W) => CBk.out _ _ x y W hxl hlt (HP.out W hb).2.2.2.sl)
            obtain ⟨A, hA'⟩ : ∃ Z, f y x = Z := ⟨_, rfl⟩
            obtain ⟨B, hB'⟩ : ∃ Z, k y x = Z := ⟨_, rfl⟩
            obtain ⟨D, hD'⟩ : ∃ Z, jFn op A B = Z := ⟨_, rfl⟩
            rw [hA'] at C1
            rw [hB'] at C2
            simp only [hA', hB', hD'] at C3 C4
            unfold SaysB at C1 C2 C3 C4
            have HD := Lib.hid hD'
            clear hA' hB' hD'
            go_wp2_with fail
            refine (C1.out _ HX.out).mono ?_
            rintro e wa ⟨rfl, hb⟩
            have HA := Lib.hid (HX.out.trans (hb.mono HX.out.size))
            have c_q := (HP.out _ HA.out).2.1.cell
            clear hb c_p c_s C1 HX
            go_wp2_with fail
            refine (C2.out _ HA.out).mono ?_
            rintro e wb ⟨rfl, hb⟩
            have HBb := Lib.hid (HA.out.trans (hb.mono HA.out.size))
            clear hb c_q C2 HA
            go_upto_region 21 with fail
            go_cut [22] (fun s22 wx => s22 = .bool D ∧ Hid (Below u10.heap.size u10 wx))
            case first =>
              have HC0 := Lib.hid (fun (cs : Array Value) => HBb.out.alloc HBb.out.size (.cells cs 4))
              rcases HOp.out with rfl | rfl | rfl | rfl <;> cases A <;> cases B <;> cases D <;> first | exact absurd HD.out (by decide) | skip
              all_goals (go_wp2_with fail; go_meet)
              all_goals exact ⟨rfl, Lib.hid (HC0.out _)⟩
            case rest =>
              obtain ⟨rfl, HBc⟩ := hcut
              have c_r := (HP.out _ HBc.out).2.2.1.cell
              clear HBb HD HOp
              go_wp2_with fail
              refine (C3.out _ HBc.out).mono ?_
              rintro e wc ⟨rfl, hb⟩
              have HCc := Lib.hid (HBc.out.trans (hb.mono HBc.out.size))
              have c_x := (HP.out _ HCc.out).2.2.2.cell
              have kdd : (D != D) = false := by simp
              clear hb c_r C3 HBc
              go_wp2_with fail
              refine (C4.out _ HCc.out).mono ?_
              rintro e wd ⟨rfl, hb⟩
              have HDd := Lib.hid (HCc.out.trans (hb.mono HCc.out.size))
              have kaa : ((!A) == A) = false := by cases A <;> rfl
              clear hb c_x C4 HCc
              go_wp2_with fail
              go_roundw
              case rel => exact ⟨x + 1, by omega, by go_num, HDd⟩
              case measure => simp [intOf]; omega
          · obtain rfl : a = x := by omega
            go_wp2_with fail
            go_roundw
            case rel => exact ⟨y + 1, by omega, by go_num, HX⟩
            case measure => simp [intOf]; omega
      · obtain rfl : n3 = y := by omega
        have c_r := (HP.out _ HY.out).2.2.1.cell
        go_wp2_with fail
        go_ret
        exact ⟨rfl, HBe.out.trans (HY.out.mono HBe.out.size)⟩
end Go.Proofs.YtabkkpifkkgpeaaDoor
