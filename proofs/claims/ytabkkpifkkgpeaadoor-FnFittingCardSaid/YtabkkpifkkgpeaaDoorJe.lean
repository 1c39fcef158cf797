/- Contracts of single functions, and plain lemmas, on which the exact laws of this seat rest; each holds under the conditions that it states. -/
import Derived.Test.YtabkkpifkkgpeaaDoorJa
import Derived.Deep.RegionWith
namespace Go.Proofs.YtabkkpifkkgpeaaDoor
set_option linter.unusedVariables false
set_option linter.unusedSimpArgs false
open Go.RowKit

/-- the first y words joined -/
def joG (f : Nat → Nat → Nat) (g h : Nat → Nat) (y j : Nat) : Nat := if j < y then f (g j) (h j) else g j
theorem joG_zero (f : Nat → Nat → Nat) (g h : Nat → Nat) : joG f g h 0 = g := by funext j; unfold joG; rw [if_neg (by omega)]
theorem joG_step (f : Nat → Nat → Nat) (g h : Nat → Nat) (y : Nat) : (fun j => if j = y then f (g y) (h y) else joG f g h y j) = joG f g h (y + 1) := by
  funext j
  unfold joG
  by_cases e : j = y
  · subst e; rw [if_pos rfl, if_pos (show j < j + 1 by omega)]
  · rw [if_neg e]
    by_cases h2 : j < y
    · rw [if_pos h2, if_pos (show j < y + 1 by omega)]
    · rw [if_neg h2, if_neg (show ¬ j < y + 1 by omega)]
theorem joG_lt {f : Nat → Nat → Nat} (hf : ∀ W V, W < 4294967296 → V < 4294967296 → f W V < 4294967296) {g h : Nat → Nat} (hg : ∀ j, g j < 4294967296) (hh : ∀ j, h j < 4294967296) (y j : Nat) : joG f g h y j < 4294967296 := by
  unfold joG
  split
  · exact hf _ _ (hg j) (hh j)
  · exact hg j
theorem jo_bits {f : Nat → Nat → Nat} {p : Bool → Bool → Bool} (hf : ∀ W V x, V < 4294967296 → x < 32 → (f W V).testBit x = p (W.testBit x) (V.testBit x)) {ss tt : List ByteArray} (V : VP ss) (V2 : VP tt) (hw : (row0 ss).size = (row0 tt).size) (hh : ss.length = tt.length) (y x : Nat) (hy : y < ss.length) (hx : x < (row0 ss).size) :
    blackB (row0 ss).size ss.length (joG f (wordsOf ss) (wordsOf tt) ss.length) x y = joF p ss tt y x := by
  have hb : hasB (row0 ss).size ss.length x y = true := by rw [hasB_insB]; exact in_range hx hy
  have h16 := V.w16
  unfold blackB joF joG
  rw [hb, Bool.true_and, Int.toNat_natCast, Int.toNat_natCast, if_pos hy, hf _ _ _ (words_lt V2 y) (by omega), words_at V y x hy hx, words_at V2 y x (by omega) (by omega)]

set_option maxHeartbeats 400000 in
theorem exists_0 (w : World) : Calls Tryd.prog 98 #[.int .i64 0] w fun e w' => e = .returned (.bool true) ∧ w = w' := by
  go_enter Tryd.func98, Tryd.ntmps98
  go_wp2
  go_ret
  exact ⟨rfl, rfl⟩

set_option maxHeartbeats 400000 in
theorem exists_1 (w : World) : Calls Tryd.prog 98 #[.int .i64 1] w fun e w' => e = .returned (.bool true) ∧ w = w' := by
  go_enter Tryd.func98, Tryd.ntmps98
  go_wp2
  go_ret
  exact ⟨rfl, rfl⟩

set_option maxHeartbeats 400000 in
theorem exists_2 (w : World) : Calls Tryd.prog 98 #[.int .i64 2] w fun e w' => e = .returned (.bool true) ∧ w = w' := by
  go_enter Tryd.func98, Tryd.ntmps98
  go_wp2
  go_ret
  exact ⟨rfl, rfl⟩

set_option maxHeartbeats 400000 in
theorem exists_3 (w : World) : Calls Tryd.prog 98 #[.int .i64 3] w fun e w' => e = .returned (.bool true) ∧ w = w' := by
  go_enter Tryd.func98, Tryd.ntmps98
  go_wp2
  go_ret
  exact ⟨rfl, rfl⟩

set_option maxHeartbeats 2000000 in
set_option maxRecDepth 100000 in
theorem impl_Join_0 (u v : Value) (ss tt : List ByteArray) (w : World) (hN : ss.length ≤ maxLen) (hz : ∀ s ∈ ss, s.size ≤ maxLen) (hu : Sl w u ss) (hN2 : tt.length ≤ maxLen) (hz2 : ∀ s ∈ tt, s.size ≤ maxLen) (hv : Sl w v tt) (he : ErrLen w) (hok : likeB ss tt = true) :
    Calls Tryd.prog 30 #[.int .i64 0, .agg #[u], .agg #[v]] w (SaysPic (mkPic (row0 ss).size ss.length (joF jF0 ss tt)) true w) := by
  have hb0 : Below w.heap.size w (((w.alloc (.cells #[u] 42)).alloc (.cells #[v] 42)).alloc (.cells #[.slice none 0 0] 42)) := Joins.below_alloc3 w _ _ _
  have hl1 : (((w.alloc (.cells #[u] 42)).alloc (.cells #[v] 42)).alloc (.cells #[.slice none 0 0] 42)).heap[w.heap.size]? = some (.cells #[u] 42 (0, 0)) := by
    rw [Below.heap_alloc _ _ _ (by simp; try omega), Below.heap_alloc _ _ _ (by simp)]; exact heap_alloc_last w _
  have hl2 : (((w.alloc (.cells #[u] 42)).alloc (.cells #[v] 42)).alloc (.cells #[.slice none 0 0] 42)).heap[w.heap.size + 1]? = some (.cells #[v] 42 (0, 0)) := by
    rw [Below.heap_alloc _ _ _ (by simp; try omega)]; exact heap_alloc2_new _ _ _
  have hl3 : (((w.alloc (.cells #[u] 42)).alloc (.cells #[v] 42)).alloc (.cells #[.slice none 0 0] 42)).heap[w.heap.size + 1 + 1]? = some (.cells #[.slice none 0 0] 42 (0, 0)) := by
    have := heap_alloc_last ((w.alloc (.cells #[u] 42)).alloc (.cells #[v] 42)) (.cells #[.slice none 0 0] 42)
    simpa using this
  have L3 := Lib.hid hl3
  have cu : (((w.alloc (.cells #[u] 42)).alloc (.cells #[v] 42)).alloc (.cells #[.slice none 0 0] 42)).cell? ⟨w.heap.size, 0, none⟩ = some u := cell_of_one hl1
  have cv : (((w.alloc (.cells #[u] 42)).alloc (.cells #[v] 42)).alloc (.cells #[.slice none 0 0] 42)).cell? ⟨w.heap.size + 1, 0, none⟩ = some v := cell_of_one hl2
  have C := Lib.hid (matricesOf_yes u v ss tt _ hN hz (hu.below hb0) hN2 hz2 (hv.below hb0) (he.below hb0) hok)
  have h4 := hok
  unfold likeB at h4
  simp only [Bool.and_eq_true, decide_eq_true_eq] at h4
  obtain ⟨⟨⟨v1, v2⟩, e1⟩, e2⟩ := h4
  have V1 := vp_of v1
  have V2 := vp_of v2
  have hw16 := V1.w16
  have hn16 := V1.n16
  have s1 := matC_size ss
  have o1 := matC_one ss
  have m1 := matC_yes v1
  have s2 := matC_size tt
  have o2 := matC_one tt
  have m2 := matC_yes v2
  obtain ⟨M1, hM1⟩ : ∃ M, matC ss = M := ⟨_, rfl⟩
  obtain ⟨M2, hM2⟩ : ∃ M, matC tt = M := ⟨_, rfl⟩
  rw [hM1] at C s1 o1 m1
  rw [hM2] at C s2 o2 m2
  have HI1 : Hid ((Tryd.prog.info? 96).map (·.size) = some M1.size) := by show _ = _; rw [s1]; exact infoM
  have HI2 : Hid ((Tryd.prog.info? 96).map (·.size) = some M2.size) := by show _ = _; rw [s2]; exact infoM
  have HZ1 := Lib.hid (zeros_size.trans s1.symm)
  have HZ2 := Lib.hid (zeros_size.trans s2.symm)
  have HO1 := Lib.hid o1
  have HO2 := Lib.hid o2
  have HPi : Hid (∀ W, Calls Tryd.prog 99 #[.agg (mat (row0 ss).size ss.length (joG jW0 (wordsOf ss) (wordsOf tt) ss.length))] W (TookPic W (mkPic (row0 ss).size ss.length (joF jF0 ss tt)))) := fun W => by
    have := picture_any (mat (row0 ss).size ss.length (joG jW0 (wordsOf ss) (wordsOf tt) ss.length)) _ _ _ W rfl hw16 hn16 (fun j => joG_lt jL0 (fun j => words_lt V1 j) (fun j => words_lt V2 j) _ j)
    rwa [mkPic_congr fun y hy x hx => jo_bits jB0 V1 V2 e1 e2 y x hy hx] at this
  have HJ : Hid (∀ j W, Calls Tryd.prog 85 #[.int .i64 0, .int .u32 (wordsOf ss j), .int .u32 (wordsOf tt j)] W fun e w' => e = .returned (.int .u32 (jW0 (wordsOf ss j) (wordsOf tt j))) ∧ W = w') := fun j W => join_0 _ _ W (words_lt V1 j) (words_lt V2 j)
  obtain ⟨pic, hpic⟩ : ∃ x, mkPic (row0 ss).size ss.length (joF jF0 ss tt) = x := ⟨_, rfl⟩
  rw [hpic] at HPi ⊢
  obtain ⟨g, hg⟩ : ∃ g, wordsOf ss = g := ⟨_, rfl⟩
  obtain ⟨h, hh⟩ : ∃ g, wordsOf tt = g := ⟨_, rfl⟩
  rw [hg] at m1 HPi HJ
  rw [hh] at m2 HPi HJ
  obtain ⟨a, ha⟩ : ∃ a, (row0 ss).size = a := ⟨_, rfl⟩
  obtain ⟨b, hbb⟩ : ∃ b, ss.length = b := ⟨_, rfl⟩
  rw [ha] at HPi m1 hw16
  rw [hbb] at HPi m1 hn16
  have HM1 := Lib.hid m1
  have HM2 := Lib.hid m2
  clear s1 s2 o1 o2 m1 m2 hM1 hM2 hok hl1 hl2 hl3 hu hv hb0 he v1 v2 e1 e2 V1 V2 hg hh ha hbb hpic
  go_enter Tryd.func30, Tryd.ntmps30
  go_wp2_with fail
  refine C.out.mono ?_
  rintro e w1 ⟨rfl, hb1⟩
  have B1 : Hid (Below w.heap.size w w1) := (Joins.below_alloc3 w _ _ _).trans (hb1.mono (by simp; omega))
  have P1 := Lib.hid ((hb1.block (w.heap.size + 1 + 1) (by simp)).trans L3.out)
  have hs1 := B1.out.size
  have hl1 : w.heap.size + 1 + 1 < w1.heap.size := (Array.getElem?_eq_some_iff.1 P1.out).1
  have hm1 : ((w1.alloc (.cells M1 96)).alloc (.cells M2 96)).heap[w1.heap.size]? = some (.cells M1 96 (0, 0)) := by
    rw [Below.heap_alloc _ _ _ (by simp)]; exact heap_alloc_last w1 _
  have hm2 : ((w1.alloc (.cells M1 96)).alloc (.cells M2 96)).heap[w1.heap.size + 1]? = some (.cells M2 96 (0, 0)) := heap_alloc2_new _ _ _
  have cb : ((w1.alloc (.cells M1 96)).alloc (.cells M2 96)).cell? ⟨w1.heap.size, 1, none⟩ = some (.int .i64 b) := by
    rw [Joins.cell_of_block hm1 1, HM1.out]; rfl
  have A1 := Lib.hid hm1
  have A2 := Lib.hid hm2
  clear hb1 cu cv hm1 hm2
  go_wp2_with (refine wpList_store_under w1 (.cells zeros 96) rfl 96 _ _ rfl M1 rfl rfl 96 zeros HI1.out HZ1.out HO1.out ?_; refine Hid.out ?_)
  refine Lib.hid ?_
  go_wp2_with (refine wpList_store_new2 w1 (.cells M1 96) rfl 96 _ _ rfl M2 rfl rfl 96 zeros HI2.out HZ2.out HO2.out ?_; refine Hid.out ?_)
  refine Lib.hid ?_
  go_wp2_with fail
  refine (exists_0 _).mono ?_
  rintro e w' ⟨rfl, rfl⟩
  go_wp2
  go_loopw [29] (fun yv wr => ∃ y : Nat, y ≤ b ∧ yv = .int .i64 y ∧ wr.heap[w1.heap.size]? = some (.cells (mat a b (joG jW0 g h y)) 96 (0, 0)) ∧ wr.heap[w1.heap.size + 1]? = some (.cells (mat (row0 tt).size tt.length h) 96 (0, 0)) ∧ Below w1.heap.size w1 wr) (fun yv _ => b - (intOf yv).toNat)
  case atStart => exact ⟨0, Nat.zero_le _, rfl, by rw [joG_zero, ← HM1.out]; exact A1.out, by rw [← HM2.out]; exact A2.out, Joins.below_alloc2 _ _ _⟩
  case round =>
    clear cb
    obtain ⟨y, hy, rfl, hm, hn, hbel⟩ := hrel
    by_cases hlt : y < b
    · have kyb : (y : Int) < (b : Int) := by omega
      have ky16 : (y : Int) < 16 := by omega
      have cy : wr.cell? ⟨w1.heap.size, 2 + y, none⟩ = some (.int .u32 (g y)) := by
        rw [Joins.cell_of_block hm (2 + y)]
        have := mcells_word a b (fun j => ((joG jW0 g h y j : Nat) : Int)) y (by omega)
        unfold mat
        rw [this]
        unfold joG
        rw [if_neg (by omega)]
      have dy : wr.cell? ⟨w1.heap.size + 1, 2 + y, none⟩ = some (.int .u32 (h y)) := by
        rw [Joins.cell_of_block hn (2 + y)]; exact mcells_word _ _ _ y (by omega)
      have fz : wr.frozen? ⟨w1.heap.size, 2 + y, none⟩ = false := Joins.unfrozen_of_block hm _
      have hnx := Lib.heap_setCell_same (i := 2 + y) hm (.int .u32 ((jW0 (g y) (h y) : Nat) : Int))
      rw [mat_put a b _ y (by omega), joG_step] at hnx
      have HX := Lib.hid hnx
      have HN2' := Lib.hid hn
      have HB := Lib.hid hbel
      have hj := HJ.out y
      obtain ⟨X, hX⟩ : ∃ X, g y = X := ⟨_, rfl⟩
      obtain ⟨Y, hY⟩ : ∃ Y, h y = Y := ⟨_, rfl⟩
      obtain ⟨Z, hZ⟩ : ∃ Z, jW0 X Y = Z := ⟨_, rfl⟩
      rw [hX] at cy hj HX
      rw [hY] at dy hj HX
      rw [hZ] at hj HX
      have HJy := Lib.hid hj
      clear hm hn hbel hnx hj hX hY hZ
      go_wp2
      go_region_with (go_at_call 85; refine (HJy.out _).mono ?_; rintro e w' ⟨rfl, rfl⟩)
      all_goals go_wp2
      all_goals (refine ⟨⟨y + 1, by omega, by go_num, HX.out, (Below.heap_setCell _ ⟨w1.heap.size, 2 + y, none⟩ _ _ (by show w1.heap.size + 1 ≠ w1.heap.size; omega)).trans HN2'.out, by first | exact HB.out.setCell (p := ⟨w1.heap.size, 2 + y, none⟩) (Nat.le_refl _) _ | exact (HB.out.setCell (p := ⟨w1.heap.size, 2 + y, none⟩) (Nat.le_refl _) _).drew⟩, by simp [intOf]; omega⟩)
    · obtain rfl : y = b := by omega
      have M3 := Lib.hid hm
      have B3 : Hid (Below w.heap.size w wr) := B1.out.trans (hbel.mono hs1)
      have P3 := Lib.hid ((hbel.block (w.heap.size + 1 + 1) hl1).trans P1.out)
      obtain ⟨M3c, hM3⟩ : ∃ M3c, mat a y (joG jW0 g h y) = M3c := ⟨_, rfl⟩
      have hsz2 : M3c.size = 18 := by rw [← hM3]; rfl
      have HI3 : Hid ((Tryd.prog.info? 96).map (·.size) = some M3c.size) := by show _ = _; rw [hsz2]; exact infoM
      rw [hM3] at M3 HPi
      clear hm hn hbel hM3 hsz2
      go_wp2_with (refine wpList_load_row rfl 96 _ rfl w1.heap.size rfl 96 M3c (0, 0) _ M3.out Tryd.underlying96 rfl HI3.out ?_)
      refine (HPi.out _).mono ?_
      rintro e w4 ⟨g4, cap4, rfl, hown4, hb4⟩
      have hp2 := (hb4.block (w.heap.size + 1 + 1) (Array.getElem?_eq_some_iff.1 P3.out).1).trans P3.out
      have hfr : w4.frozen? ⟨w.heap.size + 1 + 1, 0, none⟩ = false := free_of_one hp2
      have hc2 : w4.cell? ⟨w.heap.size + 1 + 1, 0, none⟩ = some (.slice none 0 0) := cell_of_one hp2
      have O2 := Lib.hid (own_set (u := .slice (some ⟨g4, 0, none⟩) pic.length cap4) hown4 hp2 (by decide))
      have P4 := Lib.hid hp2
      have B4 := Lib.hid (B3.out.trans (hb4.mono B3.out.size))
      have hs3 := B3.out.size
      clear hown4 hp2 hb4
      go_wp2_with fail
      refine bodyPost_ret (v := .tuple #[.agg #[.slice (some ⟨g4, 0, none⟩) pic.length cap4], .bool true]) (by simp [results, Tryd.results30, go_sem, cell_of_one (one_setCell P4.out)]) rfl ⟨_, _, _, rfl, Joins.ownsRow_le O2.out hs3, B4.out.setCell (by simp; omega) _⟩

set_option maxHeartbeats 2000000 in
set_option maxRecDepth 100000 in
theorem impl_Join_1 (u v : Value) (ss tt : List ByteArray) (w : World) (hN : ss.length ≤ maxLen) (hz : ∀ s ∈ ss, s.size ≤ maxLen) (hu : Sl w u ss) (hN2 : tt.length ≤ maxLen) (hz2 : ∀ s ∈ tt, s.size ≤ maxLen) (hv : Sl w v tt) (he : ErrLen w) (hok : likeB ss tt = true) :
    Calls Tryd.prog 30 #[.int .i64 1, .agg #[u], .agg #[v]] w (SaysPic (mkPic (row0 ss).size ss.length (joF jF1 ss tt)) true w) := by
  have hb0 : Below w.heap.size w (((w.alloc (.cells #[u] 42)).alloc (.cells #[v] 42)).alloc (.cells #[.slice none 0 0] 42)) := Joins.below_alloc3 w _ _ _
  have hl1 : (((w.alloc (.cells #[u] 42)).alloc (.cells #[v] 42)).alloc (.cells #[.slice none 0 0] 42)).heap[w.heap.size]? = some (.cells #[u] 42 (0, 0)) := by
    rw [Below.heap_alloc _ _ _ (by simp; try omega), Below.heap_alloc _ _ _ (by simp)]; exact heap_alloc_last w _
  have hl2 : (((w.alloc (.cells #[u] 42)).alloc (.cells #[v] 42)).alloc (.cells #[.slice none 0 0] 42)).heap[w.heap.size + 1]? = some (.cells #[v] 42 (0, 0)) := by
    rw [Below.heap_alloc _ _ _ (by simp; try omega)]; exact heap_alloc2_new _ _ _
  have hl3 : (((w.alloc (.cells #[u] 42)).alloc (.cells #[v] 42)).alloc (.cells #[.slice none 0 0] 42)).heap[w.heap.size + 1 + 1]? = some (.cells #[.slice none 0 0] 42 (0, 0)) := by
    have := heap_alloc_last ((w.alloc (.cells #[u] 42)).alloc (.cells #[v] 42)) (.cells #[.slice none 0 0] 42)
    simpa using this
  have L3 := Lib.hid hl3
  have cu : (((w.alloc (.cells #[u] 42)).alloc (.cells #[v] 42)).alloc (.cells #[.slice none 0 0] 42)).cell? ⟨w.heap.size, 0, none⟩ = some u := cell_of_one hl1
  have cv : (((w.alloc (.cells #[u] 42)).alloc (.cells #[v] 42)).alloc (.cells #[.slice none 0 0] 42)).cell? ⟨w.heap.size + 1, 0, none⟩ = some v := cell_of_one hl2
  have C := Lib.hid (matricesOf_yes u v ss tt _ hN hz (hu.below hb0) hN2 hz2 (hv.below hb0) (he.below hb0) hok)
  have h4 := hok
  unfold likeB at h4
  simp only [Bool.and_eq_true, decide_eq_true_eq] at h4
  obtain ⟨⟨⟨v1, v2⟩, e1⟩, e2⟩ := h4
  have V1 := vp_of v1
  have V2 := vp_of v2
  have hw16 := V1.w16
  have hn16 := V1.n16
  have s1 := matC_size ss
  have o1 := matC_one ss
  have m1 := matC_yes v1
  have s2 := matC_size tt
  have o2 := matC_one tt
  have m2 := matC_yes v2
  obtain ⟨M1, hM1⟩ : ∃ M, matC ss = M := ⟨_, rfl⟩
  obtain ⟨M2, hM2⟩ : ∃ M, matC tt = M := ⟨_, rfl⟩
  rw [hM1] at C s1 o1 m1
  rw [hM2] at C s2 o2 m2
  have HI1 : Hid ((Tryd.prog.info? 96).map (·.size) = some M1.size) := by show _ = _; rw [s1]; exact infoM
  have HI2 : Hid ((Tryd.prog.info? 96).map (·.size) = some M2.size) := by show _ = _; rw [s2]; exact infoM
  have HZ1 := Lib.hid (zeros_size.trans s1.symm)
  have HZ2 := Lib.hid (zeros_size.trans s2.symm)
  have HO1 := Lib.hid o1
  have HO2 := Lib.hid o2
  have HPi : Hid (∀ W, Calls Tryd.prog 99 #[.agg (mat (row0 ss).size ss.length (joG jW1 (wordsOf ss) (wordsOf tt) ss.length))] W (TookPic W (mkPic (row0 ss).size ss.length (joF jF1 ss tt)))) := fun W => by
    have := picture_any (mat (row0 ss).size ss.length (joG jW1 (wordsOf ss) (wordsOf tt) ss.length)) _ _ _ W rfl hw16 hn16 (fun j => joG_lt jL1 (fun j => words_lt V1 j) (fun j => words_lt V2 j) _ j)
    rwa [mkPic_congr fun y hy x hx => jo_bits jB1 V1 V2 e1 e2 y x hy hx] at this
  have HJ : Hid (∀ j W, Calls Tryd.prog 85 #[.int .i64 1, .int .u32 (wordsOf ss j), .int .u32 (wordsOf tt j)] W fun e w' => e = .returned (.int .u32 (jW1 (wordsOf ss j) (wordsOf tt j))) ∧ W = w') := fun j W => join_1 _ _ W (words_lt V1 j) (words_lt V2 j)
  obtain ⟨pic, hpic⟩ : ∃ x, mkPic (row0 ss).size ss.length (joF jF1 ss tt) = x := ⟨_, rfl⟩
  rw [hpic] at HPi ⊢
  obtain ⟨g, hg⟩ : ∃ g, wordsOf ss = g := ⟨_, rfl⟩
  obtain ⟨h, hh⟩ : ∃ g, wordsOf tt = g := ⟨_, rfl⟩
  rw [hg] at m1 HPi HJ
  rw [hh] at m2 HPi HJ
  obtain ⟨a, ha⟩ : ∃ a, (row0 ss).size = a := ⟨_, rfl⟩
  obtain ⟨b, hbb⟩ : ∃ b, ss.length = b := ⟨_, rfl⟩
  rw [ha] at HPi m1 hw16
  rw [hbb] at HPi m1 hn16
  have HM1 := Lib.hid m1
  have HM2 := Lib.hid m2
  clear s1 s2 o1 o2 m1 m2 hM1 hM2 hok hl1 hl2 hl3 hu hv hb0 he v1 v2 e1 e2 V1 V2 hg hh ha hbb hpic
  go_enter Tryd.func30, Tryd.ntmps30
  go_wp2_with fail
  refine C.out.mono ?_
  rintro e w1 ⟨rfl, hb1⟩
  have B1 : Hid (Below w.heap.size w w1) := (Joins.below_alloc3 w _ _ _).trans (hb1.mono (by simp; omega))
  have P1 := Lib.hid ((hb1.block (w.heap.size + 1 + 1) (by simp)).trans L3.out)
  have hs1 := B1.out.size
  have hl1 : w.heap.size + 1 + 1 < w1.heap.size := (Array.getElem?_eq_some_iff.1 P1.out).1
  have hm1 : ((w1.alloc (.cells M1 96)).alloc (.cells M2 96)).heap[w1.heap.size]? = some (.cells M1 96 (0, 0)) := by
    rw [Below.heap_alloc _ _ _ (by simp)]; exact heap_alloc_last w1 _
  have hm2 : ((w1.alloc (.cells M1 96)).alloc (.cells M2 96)).heap[w1.heap.size + 1]? = some (.cells M2 96 (0, 0)) := heap_alloc2_new _ _ _
  have cb : ((w1.alloc (.cells M1 96)).alloc (.cells M2 96)).cell? ⟨w1.heap.size, 1, none⟩ = some (.int .i64 b) := by
    rw [Joins.cell_of_block hm1 1, HM1.out]; rfl
  have A1 := Lib.hid hm1
  have A2 := Lib.hid hm2
  clear hb1 cu cv hm1 hm2
  go_wp2_with (refine wpList_store_under w1 (.cells zeros 96) rfl 96 _ _ rfl M1 rfl rfl 96 zeros HI1.out HZ1.out HO1.out ?_; refine Hid.out ?_)
  refine Lib.hid ?_
  go_wp2_with (refine wpList_store_new2 w1 (.cells M1 96) rfl 96 _ _ rfl M2 rfl rfl 96 zeros HI2.out HZ2.out HO2.out ?_; refine Hid.out ?_)
  refine Lib.hid ?_
  go_wp2_with fail
  refine (exists_1 _).mono ?_
  rintro e w' ⟨rfl, rfl⟩
  go_wp2
  go_loopw [29] (fun yv wr => ∃ y : Nat, y ≤ b ∧ yv = .int .i64 y ∧ wr.heap[w1.heap.size]? = some (.cells (mat a b (joG jW1 g h y)) 96 (0, 0)) ∧ wr.heap[w1.heap.size + 1]? = some (.cells (mat (row0 tt).size tt.length h) 96 (0, 0)) ∧ Below w1.heap.size w1 wr) (fun yv _ => b - (intOf yv).toNat)
  case atStart => exact ⟨0, Nat.zero_le _, rfl, by rw [joG_zero, ← HM1.out]; exact A1.out, by rw [← HM2.out]; exact A2.out, Joins.below_alloc2 _ _ _⟩
  case round =>
    clear cb
    obtain ⟨y, hy, rfl, hm, hn, hbel⟩ := hrel
    by_cases hlt : y < b
    · have kyb : (y : Int) < (b : Int) := by omega
      have ky16 : (y : Int) < 16 := by omega
      have cy : wr.cell? ⟨w1.heap.size, 2 + y, none⟩ = some (.int .u32 (g y)) := by
        rw [Joins.cell_of_block hm (2 + y)]
        have := mcells_word a b (fun j => ((joG jW1 g h y j : Nat) : Int)) y (by omega)
        unfold mat
        rw [this]
        unfold joG
        rw [if_neg (by omega)]
      have dy : wr.cell? ⟨w1.heap.size + 1, 2 + y, none⟩ = some (.int .u32 (h y)) := by
        rw [Joins.cell_of_block hn (2 + y)]; exact mcells_word _ _ _ y (by omega)
      have fz : wr.frozen? ⟨w1.heap.size, 2 + y, none⟩ = false := Joins.unfrozen_of_block hm _
      have hnx := Lib.heap_setCell_same (i := 2 + y) hm (.int .u32 ((jW1 (g y) (h y) : Nat) : Int))
      rw [mat_put a b _ y (by omega), joG_step] at hnx
      have HX := Lib.hid hnx
      have HN2' := Lib.hid hn
      have HB := Lib.hid hbel
      have hj := HJ.out y
      obtain ⟨X, hX⟩ : ∃ X, g y = X := ⟨_, rfl⟩
      obtain ⟨Y, hY⟩ : ∃ Y, h y = Y := ⟨_, rfl⟩
      obtain ⟨Z, hZ⟩ : ∃ Z, jW1 X Y = Z := ⟨_, rfl⟩
      rw [hX] at cy hj HX
      rw [hY] at dy hj HX
      rw [hZ] at hj HX
      have HJy := Lib.hid hj
      clear hm hn hbel hnx hj hX hY hZ
      go_wp2
      go_region_with (go_at_call 85; refine (HJy.out _).mono ?_; rintro e w' ⟨rfl, rfl⟩)
      all_goals go_wp2
      all_goals (refine ⟨⟨y + 1, by omega, by go_num, HX.out, (Below.heap_setCell _ ⟨w1.heap.size, 2 + y, none⟩ _ _ (by show w1.heap.size + 1 ≠ w1.heap.size; omega)).trans HN2'.out, by first | exact HB.out.setCell (p := ⟨w1.heap.size, 2 + y, none⟩) (Nat.le_refl _) _ | exact (HB.out.setCell (p := ⟨w1.heap.size, 2 + y, none⟩) (Nat.le_refl _) _).drew⟩, by simp [intOf]; omega⟩)
    · obtain rfl : y = b := by omega
      have M3 := Lib.hid hm
      have B3 : Hid (Below w.heap.size w wr) := B1.out.trans (hbel.mono hs1)
      have P3 := Lib.hid ((hbel.block (w.heap.size + 1 + 1) hl1).trans P1.out)
      obtain ⟨M3c, hM3⟩ : ∃ M3c, mat a y (joG jW1 g h y) = M3c := ⟨_, rfl⟩
      have hsz2 : M3c.size = 18 := by rw [← hM3]; rfl
      have HI3 : Hid ((Tryd.prog.info? 96).map (·.size) = some M3c.size) := by show _ = _; rw [hsz2]; exact infoM
      rw [hM3] at M3 HPi
      clear hm hn hbel hM3 hsz2
      go_wp2_with (refine wpList_load_row rfl 96 _ rfl w1.heap.size rfl 96 M3c (0, 0) _ M3.out Tryd.underlying96 rfl HI3.out ?_)
      refine (HPi.out _).mono ?_
      rintro e w4 ⟨g4, cap4, rfl, hown4, hb4⟩
      have hp2 := (hb4.block (w.heap.size + 1 + 1) (Array.getElem?_eq_some_iff.1 P3.out).1).trans P3.out
      have hfr : w4.frozen? ⟨w.heap.size + 1 + 1, 0, none⟩ = false := free_of_one hp2
      have hc2 : w4.cell? ⟨w.heap.size + 1 + 1, 0, none⟩ = some (.slice none 0 0) := cell_of_one hp2
      have O2 := Lib.hid (own_set (u := .slice (some ⟨g4, 0, none⟩) pic.length cap4) hown4 hp2 (by decide))
      have P4 := Lib.hid hp2
      have B4 := Lib.hid (B3.out.trans (hb4.mono B3.out.size))
      have hs3 := B3.out.size
      clear hown4 hp2 hb4
      go_wp2_with fail
      refine bodyPost_ret (v := .tuple #[.agg #[.slice (some ⟨g4, 0, none⟩) pic.length cap4], .bool true]) (by simp [results, Tryd.results30, go_sem, cell_of_one (one_setCell P4.out)]) rfl ⟨_, _, _, rfl, Joins.ownsRow_le O2.out hs3, B4.out.setCell (by simp; omega) _⟩
end Go.Proofs.YtabkkpifkkgpeaaDoor
