/- Contracts of single functions, and plain lemmas, on which the exact laws of this seat rest; each holds under the conditions that it states. -/
import Derived.Test.YtabkkpifkkgpeaaDoorL13
namespace Go.Proofs.YtabkkpifkkgpeaaDoor
set_option linter.unusedVariables false
set_option linter.unusedSimpArgs false
open Go.RowKit

theorem ch_plw (k : Nat) (g : Nat → Nat) (xs : List (Int × Int)) : PlW (chG k g xs) := by
  unfold chG
  split
  · exact mvA_plw _ _ _
  · split
    · exact mvA_plw _ _ _
    · split
      · exact mvA_plw _ _ _
      · exact mvA_plw _ _ _
theorem pxP_no {k : Nat} {ss : List ByteArray} {xs : List (Int × Int)} (h : pxOk ss xs = false) : pxP k ss xs = [] := by unfold pxP; rw [h]; rfl
theorem pxP_yes {k : Nat} {ss : List ByteArray} {xs : List (Int × Int)} (h : pxOk ss xs = true) : pxP k ss xs = mkPic (row0 ss).size ss.length (plX (chG k (plOf (wordsOf ss) ss.length) xs)) := by
  unfold pxP; rw [h, if_pos rfl]
  unfold pxOk at h
  rw [Bool.and_eq_true] at h
  have V := vp_of h.1
  have h1 := V.w16
  have h2 := V.n16
  exact mkPic_congr fun y hy x hx => (chG_pix k V xs (elOk_of h.2) x y (by omega) (by omega)).symm

set_option maxHeartbeats 4000000 in
set_option maxRecDepth 100000 in
theorem changed_0 (u v : Value) (ss : List ByteArray) (xs : List (Int × Int)) (w : World) (hN : ss.length ≤ maxLen) (hz : ∀ s ∈ ss, s.size ≤ maxLen) (hu : Sl w u ss) (hM : xs.length ≤ 1048576) (hwf : ∀ p ∈ xs, (Lit.int .i64 p.1).wf = true ∧ (Lit.int .i64 p.2).wf = true) (hv : SlS w v xs) (hcap : ∀ ao n c, v = .slice ao n c → n ≤ c) (he : ErrLen w) :
    Calls Tryd.prog 79 #[.agg #[u], .agg #[v], .func (.func 81) #[] #[]] w (SaysPic (pxP 0 ss xs) (pxOk ss xs) w) := by
  have hb0 := bxPE_below w u v
  have hS := bxPE_size w u v
  have p0 := bxPE_0 w u v
  have p1 := bxPE_1 w u v
  have p2 := bxPE_2 w u v
  obtain ⟨W0, hW0⟩ : ∃ W0, bxPE w u v = W0 := ⟨_, rfl⟩
  have HW0 : Hid (((w.alloc (.cells #[u] 42)).alloc (.cells #[v] 46)).alloc (.cells #[.slice none 0 0] 42) = W0) := hW0
  rw [hW0] at hb0 hS p0 p1 p2
  have hbe := Joins.below_alloc1 W0 (.cells #[v] 46)
  have hbw : Below w.heap.size w (W0.alloc (.cells #[v] 46)) := hb0.alloc hb0.size _
  have C := Lib.hid (planeWith_any (w.heap.size + 1 + 1 + 1) u v ss xs (W0.alloc (.cells #[v] 46)) hN hz (hu.below hbw) hM hwf (hv.below hbw) (he.below hbw) (by have := heap_alloc_last W0 (.cells #[v] 46); rw [hS] at this; exact this))
  have hs1 : (W0.alloc (.cells #[v] 46)).heap.size = w.heap.size + 4 := by rw [World.size_alloc, hS]
  have CG : Hid (pxOk ss xs = true → ∀ W, Below w.heap.size w W → Calls Tryd.prog 81 #[.agg (plOk ss xs), .agg #[v]] W fun e w' => e = .returned (.agg (pl (row0 ss).size ss.length (chG 0 (plOf (wordsOf ss) ss.length) xs))) ∧ Below W.heap.size W w') := fun h W hb => by
    have h2 := h
    unfold pxOk at h2
    rw [Bool.and_eq_true] at h2
    rw [plOk_yes h]
    exact grown_any _ _ _ v xs W (plOf_plw _ _ (words_small (vp_of h2.1))) (hv.below hb) hcap (elOk_of h2.2)
  have CT : Hid (pxOk ss xs = true → ∀ W, Calls Tryd.prog 86 #[.agg (pl (row0 ss).size ss.length (chG 0 (plOf (wordsOf ss) ss.length) xs))] W (TookPic W (pxP 0 ss xs))) := fun h W => by
    rw [pxP_yes h]
    unfold pxOk at h
    rw [Bool.and_eq_true] at h
    have V := vp_of h.1
    exact planePic_any _ _ _ W ⟨V.w1, V.w16⟩ ⟨V.n1, V.n16⟩ (ch_plw _ _ _)
  have HQ : Hid ((plOk ss xs).size = 26 ∧ (plOk ss xs).all (·.oneCell') = true) := by
    show _ ∧ _
    unfold plOk; split
    · exact ⟨pl_size _ _ _, pl_one _ _ _⟩
    · exact ⟨rfl, pcells_one _ _ _⟩
  have HNo : Hid (pxOk ss xs = false → pxP 0 ss xs = []) := pxP_no
  obtain ⟨Q, hQ⟩ : ∃ Q, plOk ss xs = Q := ⟨_, rfl⟩
  rw [hQ] at C CG HQ
  obtain ⟨R, hR⟩ : ∃ R, pl (row0 ss).size ss.length (chG 0 (plOf (wordsOf ss) ss.length) xs) = R := ⟨_, rfl⟩
  rw [hR] at CG CT
  obtain ⟨pic, hpic⟩ : ∃ x, pxP 0 ss xs = x := ⟨_, rfl⟩
  rw [hpic] at CT HNo ⊢
  have HI4 : Hid ((Tryd.prog.info? 113).map (·.size) = some Q.size) := by show _ = _; rw [HQ.out.1]; exact infoPl
  have HI5 : Hid (zerosP.size = Q.size) := by show _ = _; rw [HQ.out.1]; rfl
  have HI6 : Hid (Q.all (·.oneCell') = true) := HQ.out.2
  have c0 := cell_of_one p0
  have c1 := cell_of_one p1
  have HE1 : Hid (∀ W, Below (W0.alloc (.cells #[v] 46)).heap.size (W0.alloc (.cells #[v] 46)) W → W.cell? ⟨w.heap.size + 1, 0, none⟩ = some v) := fun W hb => cell_kept hb (cell_kept hbe c1)
  have HP2 : Hid (∀ W, Below (W0.alloc (.cells #[v] 46)).heap.size (W0.alloc (.cells #[v] 46)) W → W.heap[w.heap.size + 1 + 1]? = some (.cells #[.slice none 0 0] 42 (0, 0))) := fun W hb => (hb.block _ (by rw [hs1]; omega)).trans ((hbe.block _ (by rw [hS]; omega)).trans p2)
  obtain ⟨W1, hW1⟩ : ∃ W1, W0.alloc (.cells #[v] 46) = W1 := ⟨_, rfl⟩
  rw [hW1] at C hs1 hbw HE1 HP2
  have HW1 := Lib.hid hW1
  have HB1 := Lib.hid hbw
  obtain ⟨ao, cap, rfl, _⟩ := sl_form hv
  cases hok : pxOk ss xs with
  | false =>
    rw [hok] at C HNo
    have HN0 := Lib.hid (HNo.out rfl)
    clear hW0 hW1 hb0 p0 p1 p2 hbe hbw CG CT HNo HQ hQ hR hpic hu hv hwf he hN hz hM hok hcap
    go_enter Tryd.func79, Tryd.ntmps79
    go_wp2_with (rw [HW0.out]; fail)
    rw [HW0.out]
    go_wp2_with (rw [HW1.out]; fail)
    rw [HW1.out]
    refine C.out.mono ?_
    rintro e w2 ⟨rfl, hb2⟩
    have hs2 := hb2.size
    have P2 := (HP2.out _ hb2)
    have B2 := Lib.hid (HB1.out.trans (hb2.mono HB1.out.size))
    have HP3 := Lib.hid ((((Below.refl _ _).alloc (Nat.le_refl _) (.cells Q 113)).block _ (by rw [hs1] at hs2; omega)).trans P2)
    have B3 := Lib.hid (B2.out.alloc B2.out.size (.cells Q 113))
    obtain ⟨W3, hW3⟩ : ∃ W3, w2.alloc (.cells Q 113) = W3 := ⟨_, rfl⟩
    rw [hW3] at HP3 B3
    have HW3 := Lib.hid hW3
    have hfr : W3.frozen? ⟨w.heap.size + 1 + 1, 0, none⟩ = false := free_of_one HP3.out
    have hc2 : W3.cell? ⟨w.heap.size + 1 + 1, 0, none⟩ = some (.slice none 0 0) := cell_of_one HP3.out
    clear hb2 P2 hW3
    go_wp2_with (refine wpList_store_new w2 rfl 113 _ _ rfl Q rfl rfl 113 zerosP HI4.out HI5.out HI6.out ?_; rw [HW3.out])
    rw [HN0.out]
    refine bodyPost_ret (v := .tuple #[.agg #[.slice none 0 0], .bool false]) (by simp [results, Tryd.results79, go_sem, cell_of_one (one_setCell HP3.out)]) rfl ⟨_, _, _, rfl, World.ownsRow_nil _ _ _ _, B3.out.setCell (by show w.heap.size ≤ w.heap.size + 1 + 1; omega) _⟩
  | true =>
    rw [hok] at C CG CT
    have HG := Lib.hid (CG.out rfl)
    have HT := Lib.hid (CT.out rfl)
    clear hW0 hW1 hb0 p0 p1 p2 hbe hbw CG CT HNo HQ hQ hR hpic hu hv hwf he hN hz hM hok hcap
    go_enter Tryd.func79, Tryd.ntmps79
    go_wp2_with (rw [HW0.out]; fail)
    rw [HW0.out]
    go_wp2_with (rw [HW1.out]; fail)
    rw [HW1.out]
    refine C.out.mono ?_
    rintro e w2 ⟨rfl, hb2⟩
    have hs2 := hb2.size
    have P2 := (HP2.out _ hb2)
    have E2 := HE1.out _ hb2
    have B2 := Lib.hid (HB1.out.trans (hb2.mono HB1.out.size))
    have bl := (Below.refl w2.heap.size w2).alloc (Nat.le_refl _) (.cells Q 113)
    have HP3 := Lib.hid ((bl.block _ (by rw [hs1] at hs2; omega)).trans P2)
    have e3 := cell_kept bl E2
    have HQ3 := Lib.hid (heap_alloc_last w2 (.cells Q 113))
    have B3 := Lib.hid (B2.out.alloc B2.out.size (.cells Q 113))
    obtain ⟨W3, hW3⟩ : ∃ W3, w2.alloc (.cells Q 113) = W3 := ⟨_, rfl⟩
    rw [hW3] at HP3 B3 HQ3 e3
    have HW3 := Lib.hid hW3
    clear hb2 P2 hW3 E2 bl
    go_wp2_with (first | (refine wpList_store_new w2 rfl 113 _ _ rfl Q rfl rfl 113 zerosP HI4.out HI5.out HI6.out ?_; rw [HW3.out]) | (refine wpList_load_row rfl 113 _ rfl w2.heap.size rfl 113 Q (0, 0) _ HQ3.out Tryd.underlying113 rfl HI4.out ?_))
    refine (HG.out _ B3.out).mono ?_
    rintro e w4 ⟨rfl, hb4⟩
    have P4 := Lib.hid ((hb4.block _ (Array.getElem?_eq_some_iff.1 HP3.out).1).trans HP3.out)
    have B4 := Lib.hid (B3.out.trans (hb4.mono B3.out.size))
    clear hb4
    go_wp2_with fail
    refine (HT.out _).mono ?_
    rintro e w5 ⟨g4, cap4, rfl, hown4, hb4⟩
    have hp2 := (hb4.block _ (Array.getElem?_eq_some_iff.1 P4.out).1).trans P4.out
    have hfr : w5.frozen? ⟨w.heap.size + 1 + 1, 0, none⟩ = false := free_of_one hp2
    have hc2 : w5.cell? ⟨w.heap.size + 1 + 1, 0, none⟩ = some (.slice none 0 0) := cell_of_one hp2
    have O2 := Lib.hid (own_set (u := .slice (some ⟨g4, 0, none⟩) pic.length cap4) hown4 hp2 (by decide))
    have P5 := Lib.hid hp2
    have B5 := Lib.hid (B4.out.trans (hb4.mono B4.out.size))
    have hs4 := B4.out.size
    clear hown4 hp2 hb4
    go_wp2_with fail
    refine bodyPost_ret (v := .tuple #[.agg #[.slice (some ⟨g4, 0, none⟩) pic.length cap4], .bool true]) (by simp [results, Tryd.results79, go_sem, cell_of_one (one_setCell P5.out)]) rfl ⟨_, _, _, rfl, Joins.ownsRow_le O2.out hs4, B5.out.setCell (by show w.heap.size ≤ w.heap.size + 1 + 1; omega) _⟩

set_option maxHeartbeats 1000000 in
set_option maxRecDepth 100000 in
theorem impl_Dilate (u v : Value) (ss : List ByteArray) (xs : List (Int × Int)) (w : World) (hN : ss.length ≤ maxLen) (hz : ∀ s ∈ ss, s.size ≤ maxLen) (hu : Sl w u ss) (hM : xs.length ≤ 1048576) (hwf : ∀ p ∈ xs, (Lit.int .i64 p.1).wf = true ∧ (Lit.int .i64 p.2).wf = true) (hv : SlS w v xs) (hcap : ∀ ao n c, v = .slice ao n c → n ≤ c) (he : ErrLen w) :
    Calls Tryd.prog 23 #[.agg #[u], .agg #[v]] w (SaysPic (pxP 0 ss xs) (pxOk ss xs) w) := by
  have hb0 := bxPE_below w u v
  have C := Lib.hid (changed_0 u v ss xs (bxPE w u v) hN hz (hu.below hb0) hM hwf (hv.below hb0) hcap (he.below hb0))
  have hS := bxPE_size w u v
  have c0 := cell_of_one (bxPE_0 w u v)
  have c1 := cell_of_one (bxPE_1 w u v)
  have HB0 := Lib.hid hb0
  have L2 := Lib.hid (bxPE_2 w u v)
  obtain ⟨W0, hW0⟩ : ∃ W0, bxPE w u v = W0 := ⟨_, rfl⟩
  have HW0 : Hid (((w.alloc (.cells #[u] 42)).alloc (.cells #[v] 46)).alloc (.cells #[.slice none 0 0] 42) = W0) := hW0
  rw [hW0] at C hS c0 c1 HB0 L2
  obtain ⟨pic, hpic⟩ : ∃ x, pxP 0 ss xs = x := ⟨_, rfl⟩
  obtain ⟨ok, hok⟩ : ∃ x, pxOk ss xs = x := ⟨_, rfl⟩
  rw [hpic, hok] at C ⊢
  obtain ⟨ao, cap, rfl, _⟩ := sl_form hv
  clear hpic hok hN hz hu hM hwf hv hcap he hb0 hW0
  go_enter Tryd.func23, Tryd.ntmps23
  go_wp2_with (rw [HW0.out]; fail)
  rw [HW0.out]
  go_wp2_with fail
  refine C.out.mono ?_
  rintro e w4 ⟨g4, n4, cap4, rfl, hown4, hb4⟩
  have hp2 := (hb4.block (w.heap.size + 1 + 1) (by rw [hS]; omega)).trans L2.out
  have hfr : w4.frozen? ⟨w.heap.size + 1 + 1, 0, none⟩ = false := free_of_one hp2
  have hc2 : w4.cell? ⟨w.heap.size + 1 + 1, 0, none⟩ = some (.slice none 0 0) := cell_of_one hp2
  have O2 := Lib.hid (own_set (u := .slice g4 n4 cap4) hown4 hp2 (by decide))
  have P4 := Lib.hid hp2
  have B4 := Lib.hid (HB0.out.trans (hb4.mono (by rw [hS]; omega)))
  clear hown4 hp2 hb4
  go_wp2_with fail
  refine bodyPost_ret (v := .tuple #[.agg #[.slice g4 n4 cap4], .bool ok]) (by simp [results, Tryd.results23, go_sem, cell_of_one (one_setCell P4.out)]) rfl ⟨_, _, _, rfl, Joins.ownsRow_le O2.out (by rw [hS]; omega), B4.out.setCell (by show w.heap.size ≤ w.heap.size + 1 + 1; omega) _⟩

set_option maxHeartbeats 4000000 in
set_option maxRecDepth 100000 in
theorem changed_1 (u v : Value) (ss : List ByteArray) (xs : List (Int × Int)) (w : World) (hN : ss.length ≤ maxLen) (hz : ∀ s ∈ ss, s.size ≤ maxLen) (hu : Sl w u ss) (hM : xs.length ≤ 1048576) (hwf : ∀ p ∈ xs, (Lit.int .i64 p.1).wf = true ∧ (Lit.int .i64 p.2).wf = true) (hv : SlS w v xs) (hcap : ∀ ao n c, v = .slice ao n c → n ≤ c) (he : ErrLen w) :
    Calls Tryd.prog 79 #[.agg #[u], .agg #[v], .func (.func 80) #[] #[]] w (SaysPic (pxP 1 ss xs) (pxOk ss xs) w) := by
  have hb0 := bxPE_below w u v
  have hS := bxPE_size w u v
  have p0 := bxPE_0 w u v
  have p1 := bxPE_1 w u v
  have p2 := bxPE_2 w u v
  obtain ⟨W0, hW0⟩ : ∃ W0, bxPE w u v = W0 := ⟨_, rfl⟩
  have HW0 : Hid (((w.alloc (.cells #[u] 42)).alloc (.cells #[v] 46)).alloc (.cells #[.slice none 0 0] 42) = W0) := hW0
  rw [hW0] at hb0 hS p0 p1 p2
  have hbe := Joins.below_alloc1 W0 (.cells #[v] 46)
  have hbw : Below w.heap.size w (W0.alloc (.cells #[v] 46)) := hb0.alloc hb0.size _
  have C := Lib.hid (planeWith_any (w.heap.size + 1 + 1 + 1) u v ss xs (W0.alloc (.cells #[v] 46)) hN hz (hu.below hbw) hM hwf (hv.below hbw) (he.below hbw) (by have := heap_alloc_last W0 (.cells #[v] 46); rw [hS] at this; exact this))
  have hs1 : (W0.alloc (.cells #[v] 46)).heap.size = w.heap.size + 4 := by rw [World.size_alloc, hS]
  have CG : Hid (pxOk ss xs = true → ∀ W, Below w.heap.size w W → Calls Tryd.prog 80 #[.agg (plOk ss xs), .agg #[v]] W fun e w' => e = .returned (.agg (pl (row0 ss).size ss.length (chG 1 (plOf (wordsOf ss) ss.length) xs))) ∧ Below W.heap.size W w') := fun h W hb => by
    have h2 := h
    unfold pxOk at h2
    rw [Bool.and_eq_true] at h2
    rw [plOk_yes h]
    exact shrunk_any _ _ _ v xs W (plOf_plw _ _ (words_small (vp_of h2.1))) (hv.below hb) hcap (elOk_of h2.2)
  have CT : Hid (pxOk ss xs = true → ∀ W, Calls Tryd.prog 86 #[.agg (pl (row0 ss).size ss.length (chG 1 (plOf (wordsOf ss) ss.length) xs))] W (TookPic W (pxP 1 ss xs))) := fun h W => by
    rw [pxP_yes h]
    unfold pxOk at h
    rw [Bool.and_eq_true] at h
    have V := vp_of h.1
    exact planePic_any _ _ _ W ⟨V.w1, V.w16⟩ ⟨V.n1, V.n16⟩ (ch_plw _ _ _)
  have HQ : Hid ((plOk ss xs).size = 26 ∧ (plOk ss xs).all (·.oneCell') = true) := by
    show _ ∧ _
    unfold plOk; split
    · exact ⟨pl_size _ _ _, pl_one _ _ _⟩
    · exact ⟨rfl, pcells_one _ _ _⟩
  have HNo : Hid (pxOk ss xs = false → pxP 1 ss xs = []) := pxP_no
  obtain ⟨Q, hQ⟩ : ∃ Q, plOk ss xs = Q := ⟨_, rfl⟩
  rw [hQ] at C CG HQ
  obtain ⟨R, hR⟩ : ∃ R, pl (row0 ss).size ss.length (chG 1 (plOf (wordsOf ss) ss.length) xs) = R := ⟨_, rfl⟩
  rw [hR] at CG CT
  obtain ⟨pic, hpic⟩ : ∃ x, pxP 1 ss xs = x := ⟨_, rfl⟩
  rw [hpic] at CT HNo ⊢
  have HI4 : Hid ((Tryd.prog.info? 113).map (·.size) = some Q.size) := by show _ = _; rw [HQ.out.1]; exact infoPl
  have HI5 : Hid (zerosP.size = Q.size) := by show _ = _; rw [HQ.out.1]; rfl
  have HI6 : Hid (Q.all (·.oneCell') = true) := HQ.out.2
  have c0 := cell_of_one p0
  have c1 := cell_of_one p1
  have HE1 : Hid (∀ W, Below (W0.alloc (.cells #[v] 46)).heap.size (W0.alloc (.cells #[v] 46)) W → W.cell? ⟨w.heap.size + 1, 0, none⟩ = some v) := fun W hb => cell_kept hb (cell_kept hbe c1)
  have HP2 : Hid (∀ W, Below (W0.alloc (.cells #[v] 46)).heap.size (W0.alloc (.cells #[v] 46)) W → W.heap[w.heap.size + 1 + 1]? = some (.cells #[.slice none 0 0] 42 (0, 0))) := fun W hb => (hb.block _ (by rw [hs1]; omega)).trans ((hbe.block _ (by rw [hS]; omega)).trans p2)
  obtain ⟨W1, hW1⟩ : ∃ W1, W0.alloc (.cells #[v] 46) = W1 := ⟨_, rfl⟩
  rw [hW1] at C hs1 hbw HE1 HP2
  have HW1 := Lib.hid hW1
  have HB1 := Lib.hid hbw
  obtain ⟨ao, cap, rfl, _⟩ := sl_form hv
  cases hok : pxOk ss xs with
  | false =>
    rw [hok] at C HNo
    have HN0 := Lib.hid (HNo.out rfl)
    clear hW0 hW1 hb0 p0 p1 p2 hbe hbw CG CT HNo HQ hQ hR hpic hu hv hwf he hN hz hM hok hcap
    go_enter Tryd.func79, Tryd.ntmps79
    go_wp2_with (rw [HW0.out]; fail)
    rw [HW0.out]
    go_wp2_with (rw [HW1.out]; fail)
    rw [HW1.out]
    refine C.out.mono ?_
    rintro e w2 ⟨rfl, hb2⟩
    have hs2 := hb2.size
    have P2 := (HP2.out _ hb2)
    have B2 := Lib.hid (HB1.out.trans (hb2.mono HB1.out.size))
    have HP3 := Lib.hid ((((Below.refl _ _).alloc (Nat.le_refl _) (.cells Q 113)).block _ (by rw [hs1] at hs2; omega)).trans P2)
    have B3 := Lib.hid (B2.out.alloc B2.out.size (.cells Q 113))
    obtain ⟨W3, hW3⟩ : ∃ W3, w2.alloc (.cells Q 113) = W3 := ⟨_, rfl⟩
    rw [hW3] at HP3 B3
    have HW3 := Lib.hid hW3
    have hfr : W3.frozen? ⟨w.heap.size + 1 + 1, 0, none⟩ = false := free_of_one HP3.out
    have hc2 : W3.cell? ⟨w.heap.size + 1 + 1, 0, none⟩ = some (.slice none 0 0) := cell_of_one HP3.out
    clear hb2 P2 hW3
    go_wp2_with (refine wpList_store_new w2 rfl 113 _ _ rfl Q rfl rfl 113 zerosP HI4.out HI5.out HI6.out ?_; rw [HW3.out])
    rw [HN0.out]
    refine bodyPost_ret (v := .tuple #[.agg #[.slice none 0 0], .bool false]) (by simp [results, Tryd.results79, go_sem, cell_of_one (one_setCell HP3.out)]) rfl ⟨_, _, _, rfl, World.ownsRow_nil _ _ _ _, B3.out.setCell (by show w.heap.size ≤ w.heap.size + 1 + 1; omega) _⟩
  | true =>
    rw [hok] at C CG CT
    have HG := Lib.hid (CG.out rfl)
    have HT := Lib.hid (CT.out rfl)
    clear hW0 hW1 hb0 p0 p1 p2 hbe hbw CG CT HNo HQ hQ hR hpic hu hv hwf he hN hz hM hok hcap
    go_enter Tryd.func79, Tryd.ntmps79
    go_wp2_with (rw [HW0.out]; fail)
    rw [HW0.out]
    go_wp2_with (rw [HW1.out]; fail)
    rw [HW1.out]
    refine C.out.mono ?_
    rintro e w2 ⟨rfl, hb2⟩
    have hs2 := hb2.size
    have P2 := (HP2.out _ hb2)
    have E2 := HE1.out _ hb2
    have B2 := Lib.hid (HB1.out.trans (hb2.mono HB1.out.size))
    have bl := (Below.refl w2.heap.size w2).alloc (Nat.le_refl _) (.cells Q 113)
    have HP3 := Lib.hid ((bl.block _ (by rw [hs1] at hs2; omega)).trans P2)
    have e3 := cell_kept bl E2
    have HQ3 := Lib.hid (heap_alloc_last w2 (.cells Q 113))
    have B3 := Lib.hid (B2.out.alloc B2.out.size (.cells Q 113))
    obtain ⟨W3, hW3⟩ : ∃ W3, w2.alloc (.cells Q 113) = W3 := ⟨_, rfl⟩
    rw [hW3] at HP3 B3 HQ3 e3
    have HW3 := Lib.hid hW3
    clear hb2 P2 hW3 E2 bl
    go_wp2_with (first | (refine wpList_store_new w2 rfl 113 _ _ rfl Q rfl rfl 113 zerosP HI4.out HI5.out HI6.out ?_; rw [HW3.out]) | (refine wpList_load_row rfl 113 _ rfl w2.heap.size rfl 113 Q (0, 0) _ HQ3.out Tryd.underlying113 rfl HI4.out ?_))
    refine (HG.out _ B3.out).mono ?_
    rintro e w4 ⟨rfl, hb4⟩
    have P4 := Lib.hid ((hb4.block _ (Array.getElem?_eq_some_iff.1 HP3.out).1).trans HP3.out)
    have B4 := Lib.hid (B3.out.trans (hb4.mono B3.out.size))
    clear hb4
    go_wp2_with fail
    refine (HT.out _).mono ?_
    rintro e w5 ⟨g4, cap4, rfl, hown4, hb4⟩
    have hp2 := (hb4.block _ (Array.getElem?_eq_some_iff.1 P4.out).1).trans P4.out
    have hfr : w5.frozen? ⟨w.heap.size + 1 + 1, 0, none⟩ = false := free_of_one hp2
    have hc2 : w5.cell? ⟨w.heap.size + 1 + 1, 0, none⟩ = some (.slice none 0 0) := cell_of_one hp2
    have O2 := Lib.hid (own_set (u := .slice (some ⟨g4, 0, none⟩) pic.length cap4) hown4 hp2 (by decide))
    have P5 := Lib.hid hp2
    have B5 := Lib.hid (B4.out.trans (hb4.mono B4.out.size))
    have hs4 := B4.out.size
    clear hown4 hp2 hb4
    go_wp2_with fail
    refine bodyPost_ret (v := .tuple #[.agg #[.slice (some ⟨g4, 0, none⟩) pic.length cap4], .bool true]) (by simp [results, Tryd.results79, go_sem, cell_of_one (one_setCell P5.out)]) rfl ⟨_, _, _, rfl, Joins.ownsRow_le O2.out hs4, B5.out.setCell (by show w.heap.size ≤ w.heap.size + 1 + 1; omega) _⟩

set_option maxHeartbeats 1000000 in
set_option maxRecDepth 100000 in
theorem impl_Erode (u v : Value) (ss : List ByteArray) (xs : List (Int × Int)) (w : World) (hN : ss.length ≤ maxLen) (hz : ∀ s ∈ ss, s.size ≤ maxLen) (hu : Sl w u ss) (hM : xs.length ≤ 1048576) (hwf : ∀ p ∈ xs, (Lit.int .i64 p.1).wf = true ∧ (Lit.int .i64 p.2).wf = true) (hv : SlS w v xs) (hcap : ∀ ao n c, v = .slice ao n c → n ≤ c) (he : ErrLen w) :
    Calls Tryd.prog 22 #[.agg #[u], .agg #[v]] w (SaysPic (pxP 1 ss xs) (pxOk ss xs) w) := by
  have hb0 := bxPE_below w u v
  have C := Lib.hid (changed_1 u v ss xs (bxPE w u v) hN hz (hu.below hb0) hM hwf (hv.below hb0) hcap (he.below hb0))
  have hS := bxPE_size w u v
  have c0 := cell_of_one (bxPE_0 w u v)
  have c1 := cell_of_one (bxPE_1 w u v)
  have HB0 := Lib.hid hb0
  have L2 := Lib.hid (bxPE_2 w u v)
  obtain ⟨W0, hW0⟩ : ∃ W0, bxPE w u v = W0 := ⟨_, rfl⟩
  have HW0 : Hid (((w.alloc (.cells #[u] 42)).alloc (.cells #[v] 46)).alloc (.cells #[.slice none 0 0] 42) = W0) := hW0
  rw [hW0] at C hS c0 c1 HB0 L2
  obtain ⟨pic, hpic⟩ : ∃ x, pxP 1 ss xs = x := ⟨_, rfl⟩
  obtain ⟨ok, hok⟩ : ∃ x, pxOk ss xs = x := ⟨_, rfl⟩
  rw [hpic, hok] at C ⊢
  obtain ⟨ao, cap, rfl, _⟩ := sl_form hv
  clear hpic hok hN hz hu hM hwf hv hcap he hb0 hW0
  go_enter Tryd.func22, Tryd.ntmps22
  go_wp2_with (rw [HW0.out]; fail)
  rw [HW0.out]
  go_wp2_with fail
  refine C.out.mono ?_
  rintro e w4 ⟨g4, n4, cap4, rfl, hown4, hb4⟩
  have hp2 := (hb4.block (w.heap.size + 1 + 1) (by rw [hS]; omega)).trans L2.out
  have hfr : w4.frozen? ⟨w.heap.size + 1 + 1, 0, none⟩ = false := free_of_one hp2
  have hc2 : w4.cell? ⟨w.heap.size + 1 + 1, 0, none⟩ = some (.slice none 0 0) := cell_of_one hp2
  have O2 := Lib.hid (own_set (u := .slice g4 n4 cap4) hown4 hp2 (by decide))
  have P4 := Lib.hid hp2
  have B4 := Lib.hid (HB0.out.trans (hb4.mono (by rw [hS]; omega)))
  clear hown4 hp2 hb4
  go_wp2_with fail
  refine bodyPost_ret (v := .tuple #[.agg #[.slice g4 n4 cap4], .bool ok]) (by simp [results, Tryd.results22, go_sem, cell_of_one (one_setCell P4.out)]) rfl ⟨_, _, _, rfl, Joins.ownsRow_le O2.out (by rw [hS]; omega), B4.out.setCell (by show w.heap.size ≤ w.heap.size + 1 + 1; omega) _⟩

set_option maxHeartbeats 4000000 in
set_option maxRecDepth 100000 in
theorem changed_2 (u v : Value) (ss : List ByteArray) (xs : List (Int × Int)) (w : World) (hN : ss.length ≤ maxLen) (hz : ∀ s ∈ ss, s.size ≤ maxLen) (hu : Sl w u ss) (hM : xs.length ≤ 1048576) (hwf : ∀ p ∈ xs, (Lit.int .i64 p.1).wf = true ∧ (Lit.int .i64 p.2).wf = true) (hv : SlS w v xs) (hcap : ∀ ao n c, v = .slice ao n c → n ≤ c) (he : ErrLen w) :
    Calls Tryd.prog 79 #[.agg #[u], .agg #[v], .func (.func 103) #[] #[]] w (SaysPic (pxP 2 ss xs) (pxOk ss xs) w) := by
  have hb0 := bxPE_below w u v
  have hS := bxPE_size w u v
  have p0 := bxPE_0 w u v
  have p1 := bxPE_1 w u v
  have p2 := bxPE_2 w u v
  obtain ⟨W0, hW0⟩ : ∃ W0, bxPE w u v = W0 := ⟨_, rfl⟩
  have HW0 : Hid (((w.alloc (.cells #[u] 42)).alloc (.cells #[v] 46)).alloc (.cells #[.slice none 0 0] 42) = W0) := hW0
  rw [hW0] at hb0 hS p0 p1 p2
  have hbe := Joins.below_alloc1 W0 (.cells #[v] 46)
  have hbw : Below w.heap.size w (W0.alloc (.cells #[v] 46)) := hb0.alloc hb0.size _
  have C := Lib.hid (planeWith_any (w.heap.size + 1 + 1 + 1) u v ss xs (W0.alloc (.cells #[v] 46)) hN hz (hu.below hbw) hM hwf (hv.below hbw) (he.below hbw) (by have := heap_alloc_last W0 (.cells #[v] 46); rw [hS] at this; exact this))
  have hs1 : (W0.alloc (.cells #[v] 46)).heap.size = w.heap.size + 4 := by rw [World.size_alloc, hS]
  have CG : Hid (pxOk ss xs = true → ∀ W, Below w.heap.size w W → Calls Tryd.prog 103 #[.agg (plOk ss xs), .agg #[v]] W fun e w' => e = .returned (.agg (pl (row0 ss).size ss.length (chG 2 (plOf (wordsOf ss) ss.length) xs))) ∧ Below W.heap.size W w') := fun h W hb => by
    have h2 := h
    unfold pxOk at h2
    rw [Bool.and_eq_true] at h2
    rw [plOk_yes h]
    exact opened_any _ _ _ v xs W (plOf_plw _ _ (words_small (vp_of h2.1))) (hv.below hb) hcap (elOk_of h2.2)
  have CT : Hid (pxOk ss xs = true → ∀ W, Calls Tryd.prog 86 #[.agg (pl (row0 ss).size ss.length (chG 2 (plOf (wordsOf ss) ss.length) xs))] W (TookPic W (pxP 2 ss xs))) := fun h W => by
    rw [pxP_yes h]
    unfold pxOk at h
    rw [Bool.and_eq_true] at h
    have V := vp_of h.1
    exact planePic_any _ _ _ W ⟨V.w1, V.w16⟩ ⟨V.n1, V.n16⟩ (ch_plw _ _ _)
  have HQ : Hid ((plOk ss xs).size = 26 ∧ (plOk ss xs).all (·.oneCell') = true) := by
    show _ ∧ _
    unfold plOk; split
    · exact ⟨pl_size _ _ _, pl_one _ _ _⟩
    · exact ⟨rfl, pcells_one _ _ _⟩
  have HNo : Hid (pxOk ss xs = false → pxP 2 ss xs = []) := pxP_no
  obtain ⟨Q, hQ⟩ : ∃ Q, plOk ss xs = Q := ⟨_, rfl⟩
  rw [hQ] at C CG HQ
  obtain ⟨R, hR⟩ : ∃ R, pl (row0 ss).size ss.length (chG 2 (plOf (wordsOf ss) ss.length) xs) = R := ⟨_, rfl⟩
  rw [hR] at CG CT
  obtain ⟨pic, hpic⟩ : ∃ x, pxP 2 ss xs = x := ⟨_, rfl⟩
  rw [hpic] at CT HNo ⊢
  have HI4 : Hid ((Tryd.prog.info? 113).map (·.size) = some Q.size) := by show _ = _; rw [HQ.out.1]; exact infoPl
  have HI5 : Hid (zerosP.size = Q.size) := by show _ = _; rw [HQ.out.1]; rfl
  have HI6 : Hid (Q.all (·.oneCell') = true) := HQ.out.2
  have c0 := cell_of_one p0
  have c1 := cell_of_one p1
  have HE1 : Hid (∀ W, Below (W0.alloc (.cells #[v] 46)).heap.size (W0.alloc (.cells #[v] 46)) W → W.cell? ⟨w.heap.size + 1, 0, none⟩ = some v) := fun W hb => cell_kept hb (cell_kept hbe c1)
  have HP2 : Hid (∀ W, Below (W0.alloc (.cells #[v] 46)).heap.size (W0.alloc (.cells #[v] 46)) W → W.heap[w.heap.size + 1 + 1]? = some (.cells #[.slice none 0 0] 42 (0, 0))) := fun W hb => (hb.block _ (by rw [hs1]; omega)).trans ((hbe.block _ (by rw [hS]; omega)).trans p2)
  obtain ⟨W1, hW1⟩ : ∃ W1, W0.alloc (.cells #[v] 46) = W1 := ⟨_, rfl⟩
  rw [hW1] at C hs1 hbw HE1 HP2
  have HW1 := Lib.hid hW1
  have HB1 := Lib.hid hbw
  obtain ⟨ao, cap, rfl, _⟩ := sl_form hv
  cases hok : pxOk ss xs with
  | false =>
    rw [hok] at C HNo
    have HN0 := Lib.hid (HNo.out rfl)
    clear hW0 hW1 hb0 p0 p1 p2 hbe hbw CG CT HNo HQ hQ hR hpic hu hv hwf he hN hz hM hok hcap
    go_enter Tryd.func79, Tryd.ntmps79
    go_wp2_with (rw [HW0.out]; fail)
    rw [HW0.out]
    go_wp2_with (rw [HW1.out]; fail)
    rw [HW1.out]
    refine C.out.mono ?_
    rintro e w2 ⟨rfl, hb2⟩
    have hs2 := hb2.size
    have P2 := (HP2.out _ hb2)
    have B2 := Lib.hid (HB1.out.trans (hb2.mono HB1.out.size))
    have HP3 := Lib.hid ((((Below.refl _ _).alloc (Nat.le_refl _) (.cells Q 113)).block _ (by rw [hs1] at hs2; omega)).trans P2)
    have B3 := Lib.hid (B2.out.alloc B2.out.size (.cells Q 113))
    obtain ⟨W3, hW3⟩ : ∃ W3, w2.alloc (.cells Q 113) = W3 := ⟨_, rfl⟩
    rw [hW3] at HP3 B3
    have HW3 := Lib.hid hW3
    have hfr : W3.frozen? ⟨w.heap.size + 1 + 1, 0, none⟩ = false := free_of_one HP3.out
    have hc2 : W3.cell? ⟨w.heap.size + 1 + 1, 0, none⟩ = some (.slice none 0 0) := cell_of_one HP3.out
    clear hb2 P2 hW3
    go_wp2_with (refine wpList_store_new w2 rfl 113 _ _ rfl Q rfl rfl 113 zerosP HI4.out HI5.out HI6.out ?_; rw [HW3.out])
    rw [HN0.out]
    refine bodyPost_ret (v := .tuple #[.agg #[.slice none 0 0], .bool false]) (by simp [results, Tryd.results79, go_sem, cell_of_one (one_setCell HP3.out)]) rfl ⟨_, _, _, rfl, World.ownsRow_nil _ _ _ _, B3.out.setCell (by show w.heap.size ≤ w.heap.size + 1 + 1; omega) _⟩
  | true =>
    rw [hok] at C CG CT
    have HG := Lib.hid (CG.out rfl)
    have HT := Lib.hid (CT.out rfl)
    clear hW0 hW1 hb0 p0 p1 p2 hbe hbw CG CT HNo HQ hQ hR hpic hu hv hwf he hN hz hM hok hcap
    go_enter Tryd.func79, Tryd.ntmps79
    go_wp2_with (rw [HW0.out]; fail)
    rw [HW0.out]
    go_wp2_with (rw [HW1.out]; fail)
    rw [HW1.out]
    refine C.out.mono ?_
    rintro e w2 ⟨rfl, hb2⟩
    have hs2 := hb2.size
    have P2 := (HP2.out _ hb2)
    have E2 := HE1.out _ hb2
    have B2 := Lib.hid (HB1.out.trans (hb2.mono HB1.out.size))
    have bl := (Below.refl w2.heap.size w2).alloc (Nat.le_refl _) (.cells Q 113)
    have HP3 := Lib.hid ((bl.block _ (by rw [hs1] at hs2; omega)).trans P2)
    have e3 := cell_kept bl E2
    have HQ3 := Lib.hid (heap_alloc_last w2 (.cells Q 113))
    have B3 := Lib.hid (B2.out.alloc B2.out.size (.cells Q 113))
    obtain ⟨W3, hW3⟩ : ∃ W3, w2.alloc (.cells Q 113) = W3 := ⟨_, rfl⟩
    rw [hW3] at HP3 B3 HQ3 e3
    have HW3 := Lib.hid hW3
    clear hb2 P2 hW3 E2 bl
    go_wp2_with (first | (refine wpList_store_new w2 rfl 113 _ _ rfl Q rfl rfl 113 zerosP HI4.out HI5.out HI6.out ?_; rw [HW3.out]) | (refine wpList_load_row rfl 113 _ rfl w2.heap.size rfl 113 Q (0, 0) _ HQ3.out Tryd.underlying113 rfl HI4.out ?_))
    refine (HG.out _ B3.out).mono ?_
    rintro e w4 ⟨rfl, hb4⟩
    have P4 := Lib.hid ((hb4.block _ (Array.getElem?_eq_some_iff.1 HP3.out).1).trans HP3.out)
    have B4 := Lib.hid (B3.out.trans (hb4.mono B3.out.size))
    clear hb4
    go_wp2_with fail
    refine (HT.out _).mono ?_
    rintro e w5 ⟨g4, cap4, rfl, hown4, hb4⟩
    have hp2 := (hb4.block _ (Array.getElem?_eq_some_iff.1 P4.out).1).trans P4.out
    have hfr : w5.frozen? ⟨w.heap.size + 1 + 1, 0, none⟩ = false := free_of_one hp2
    have hc2 : w5.cell? ⟨w.heap.size + 1 + 1, 0, none⟩ = some (.slice none 0 0) := cell_of_one hp2
    have O2 := Lib.hid (own_set (u := .slice (some ⟨g4, 0, none⟩) pic.length cap4) hown4 hp2 (by decide))
    have P5 := Lib.hid hp2
    have B5 := Lib.hid (B4.out.trans (hb4.mono B4.out.size))
    have hs4 := B4.out.size
    clear hown4 hp2 hb4
    go_wp2_with fail
    refine bodyPost_ret (v := .tuple #[.agg #[.slice (some ⟨g4, 0, none⟩) pic.length cap4], .bool true]) (by simp [results, Tryd.results79, go_sem, cell_of_one (one_setCell P5.out)]) rfl ⟨_, _, _, rfl, Joins.ownsRow_le O2.out hs4, B5.out.setCell (by show w.heap.size ≤ w.heap.size + 1 + 1; omega) _⟩

set_option maxHeartbeats 1000000 in
set_option maxRecDepth 100000 in
theorem impl_Open (u v : Value) (ss : List ByteArray) (xs : List (Int × Int)) (w : World) (hN : ss.length ≤ maxLen) (hz : ∀ s ∈ ss, s.size ≤ maxLen) (hu : Sl w u ss) (hM : xs.length ≤ 1048576) (hwf : ∀ p ∈ xs, (Lit.int .i64 p.1).wf = true ∧ (Lit.int .i64 p.2).wf = true) (hv : SlS w v xs) (hcap : ∀ ao n c, v = .slice ao n c → n ≤ c) (he : ErrLen w) :
    Calls Tryd.prog 35 #[.agg #[u], .agg #[v]] w (SaysPic (pxP 2 ss xs) (pxOk ss xs) w) := by
  have hb0 := bxPE_below w u v
  have C := Lib.hid (changed_2 u v ss xs (bxPE w u v) hN hz (hu.below hb0) hM hwf (hv.below hb0) hcap (he.below hb0))
  have hS := bxPE_size w u v
  have c0 := cell_of_one (bxPE_0 w u v)
  have c1 := cell_of_one (bxPE_1 w u v)
  have HB0 := Lib.hid hb0
  have L2 := Lib.hid (bxPE_2 w u v)
  obtain ⟨W0, hW0⟩ : ∃ W0, bxPE w u v = W0 := ⟨_, rfl⟩
  have HW0 : Hid (((w.alloc (.cells #[u] 42)).alloc (.cells #[v] 46)).alloc (.cells #[.slice none 0 0] 42) = W0) := hW0
  rw [hW0] at C hS c0 c1 HB0 L2
  obtain ⟨pic, hpic⟩ : ∃ x, pxP 2 ss xs = x := ⟨_, rfl⟩
  obtain ⟨ok, hok⟩ : ∃ x, pxOk ss xs = x := ⟨_, rfl⟩
  rw [hpic, hok] at C ⊢
  obtain ⟨ao, cap, rfl, _⟩ := sl_form hv
  clear hpic hok hN hz hu hM hwf hv hcap he hb0 hW0
  go_enter Tryd.func35, Tryd.ntmps35
  go_wp2_with (rw [HW0.out]; fail)
  rw [HW0.out]
  go_wp2_with fail
  refine C.out.mono ?_
  rintro e w4 ⟨g4, n4, cap4, rfl, hown4, hb4⟩
  have hp2 := (hb4.block (w.heap.size + 1 + 1) (by rw [hS]; omega)).trans L2.out
  have hfr : w4.frozen? ⟨w.heap.size + 1 + 1, 0, none⟩ = false := free_of_one hp2
  have hc2 : w4.cell? ⟨w.heap.size + 1 + 1, 0, none⟩ = some (.slice none 0 0) := cell_of_one hp2
  have O2 := Lib.hid (own_set (u := .slice g4 n4 cap4) hown4 hp2 (by decide))
  have P4 := Lib.hid hp2
  have B4 := Lib.hid (HB0.out.trans (hb4.mono (by rw [hS]; omega)))
  clear hown4 hp2 hb4
  go_wp2_with fail
  refine bodyPost_ret (v := .tuple #[.agg #[.slice g4 n4 cap4], .bool ok]) (by simp [results, Tryd.results35, go_sem, cell_of_one (one_setCell P4.out)]) rfl ⟨_, _, _, rfl, Joins.ownsRow_le O2.out (by rw [hS]; omega), B4.out.setCell (by show w.heap.size ≤ w.heap.size + 1 + 1; omega) _⟩

set_option maxHeartbeats 4000000 in
set_option maxRecDepth 100000 in
theorem changed_3 (u v : Value) (ss : List ByteArray) (xs : List (Int × Int)) (w : World) (hN : ss.length ≤ maxLen) (hz : ∀ s ∈ ss, s.size ≤ maxLen) (hu : Sl w u ss) (hM : xs.length ≤ 1048576) (hwf : ∀ p ∈ xs, (Lit.int .i64 p.1).wf = true ∧ (Lit.int .i64 p.2).wf = true) (hv : SlS w v xs) (hcap : ∀ ao n c, v = .slice ao n c → n ≤ c) (he : ErrLen w) :
    Calls Tryd.prog 79 #[.agg #[u], .agg #[v], .func (.func 104) #[] #[]] w (SaysPic (pxP 3 ss xs) (pxOk ss xs) w) := by
  have hb0 := bxPE_below w u v
  have hS := bxPE_size w u v
  have p0 := bxPE_0 w u v
  have p1 := bxPE_1 w u v
  have p2 := bxPE_2 w u v
  obtain ⟨W0, hW0⟩ : ∃ W0, bxPE w u v = W0 := ⟨_, rfl⟩
  have HW0 : Hid (((w.alloc (.cells #[u] 42)).alloc (.cells #[v] 46)).alloc (.cells #[.slice none 0 0] 42) = W0) := hW0
  rw [hW0] at hb0 hS p0 p1 p2
  have hbe := Joins.below_alloc1 W0 (.cells #[v] 46)
  have hbw : Below w.heap.size w (W0.alloc (.cells #[v] 46)) := hb0.alloc hb0.size _
  have C := Lib.hid (planeWith_any (w.heap.size + 1 + 1 + 1) u v ss xs (W0.alloc (.cells #[v] 46)) hN hz (hu.below hbw) hM hwf (hv.below hbw) (he.below hbw) (by have := heap_alloc_last W0 (.cells #[v] 46); rw [hS] at this; exact this))
  have hs1 : (W0.alloc (.cells #[v] 46)).heap.size = w.heap.size + 4 := by rw [World.size_alloc, hS]
  have CG : Hid (pxOk ss xs = true → ∀ W, Below w.heap.size w W → Calls Tryd.prog 104 #[.agg (plOk ss xs), .agg #[v]] W fun e w' => e = .returned (.agg (pl (row0 ss).size ss.length (chG 3 (plOf (wordsOf ss) ss.length) xs))) ∧ Below W.heap.size W w') := fun h W hb => by
    have h2 := h
    unfold pxOk at h2
    rw [Bool.and_eq_true] at h2
    rw [plOk_yes h]
    exact closed_any _ _ _ v xs W (plOf_plw _ _ (words_small (vp_of h2.1))) (hv.below hb) hcap (elOk_of h2.2)
  have CT : Hid (pxOk ss xs = true → ∀ W, Calls Tryd.prog 86 #[.agg (pl (row0 ss).size ss.length (chG 3 (plOf (wordsOf ss) ss.length) xs))] W (TookPic W (pxP 3 ss xs))) := fun h W => by
    rw [pxP_yes h]
    unfold pxOk at h
    rw [Bool.and_eq_true] at h
    have V := vp_of h.1
    exact planePic_any _ _ _ W ⟨V.w1, V.w16⟩ ⟨V.n1, V.n16⟩ (ch_plw _ _ _)
  have HQ : Hid ((plOk ss xs).size = 26 ∧ (plOk ss xs).all (·.oneCell') = true) := by
    show _ ∧ _
    unfold plOk; split
    · exact ⟨pl_size _ _ _, pl_one _ _ _⟩
    · exact ⟨rfl, pcells_one _ _ _⟩
  have HNo : Hid (pxOk ss xs = false → pxP 3 ss xs = []) := pxP_no
  obtain ⟨Q, hQ⟩ : ∃ Q, plOk ss xs = Q := ⟨_, rfl⟩
  rw [hQ] at C CG HQ
  obtain ⟨R, hR⟩ : ∃ R, pl (row0 ss).size ss.length (chG 3 (plOf (wordsOf ss) ss.length) xs) = R := ⟨_, rfl⟩
  rw [hR] at CG CT
  obtain ⟨pic, hpic⟩ : ∃ x, pxP 3 ss xs = x := ⟨_, rfl⟩
  rw [hpic] at CT HNo ⊢
  have HI4 : Hid ((Tryd.prog.info? 113).map (·.size) = some Q.size) := by show _ = _; rw [HQ.out.1]; exact infoPl
  have HI5 : Hid (zerosP.size = Q.size) := by show _ = _; rw [HQ.out.1]; rfl
  have HI6 : Hid (Q.all (·.oneCell') = true) := HQ.out.2
  have c0 := cell_of_one p0
  have c1 := cell_of_one p1
  have HE1 : Hid (∀ W, Below (W0.alloc (.cells #[v] 46)).heap.size (W0.alloc (.cells #[v] 46)) W → W.cell? ⟨w.heap.size + 1, 0, none⟩ = some v) := fun W hb => cell_kept hb (cell_kept hbe c1)
  have HP2 : Hid (∀ W, Below (W0.alloc (.cells #[v] 46)).heap.size (W0.alloc (.cells #[v] 46)) W → W.heap[w.heap.size + 1 + 1]? = some (.cells #[.slice none 0 0] 42 (0, 0))) := fun W hb => (hb.block _ (by rw [hs1]; omega)).trans ((hbe.block _ (by rw [hS]; omega)).trans p2)
  obtain ⟨W1, hW1⟩ : ∃ W1, W0.alloc (.cells #[v] 46) = W1 := ⟨_, rfl⟩
  rw [hW1] at C hs1 hbw HE1 HP2
  have HW1 := Lib.hid hW1
  have HB1 := Lib.hid hbw
  obtain ⟨ao, cap, rfl, _⟩ := sl_form hv
  cases hok : pxOk ss xs with
  | false =>
    rw [hok] at C HNo
    have HN0 := Lib.hid (HNo.out rfl)
    clear hW0 hW1 hb0 p0 p1 p2 hbe hbw CG CT HNo HQ hQ hR hpic hu hv hwf he hN hz hM hok hcap
    go_enter Tryd.func79, Tryd.ntmps79
    go_wp2_with (rw [HW0.out]; fail)
    rw [HW0.out]
    go_wp2_with (rw [HW1.out]; fail)
    rw [HW1.out]
    refine C.out.mono ?_
    rintro e w2 ⟨rfl, hb2⟩
    have hs2 := hb2.size
    have P2 := (HP2.out _ hb2)
    have B2 := Lib.hid (HB1.out.trans (hb2.mono HB1.out.size))
    have HP3 := Lib.hid ((((Below.refl _ _).alloc (Nat.le_refl _) (.cells Q 113)).block _ (by rw [hs1] at hs2; omega)).trans P2)
    have B3 := Lib.hid (B2.out.alloc B2.out.size (.cells Q 113))
    obtain ⟨W3, hW3⟩ : ∃ W3, w2.alloc (.cells Q 113) = W3 := ⟨_, rfl⟩
    rw [hW3] at HP3 B3
    have HW3 := Lib.hid hW3
    have hfr : W3.frozen? ⟨w.heap.size + 1 + 1, 0, none⟩ = false := free_of_one HP3.out
    have hc2 : W3.cell? ⟨w.heap.size + 1 + 1, 0, none⟩ = some (.slice none 0 0) := cell_of_one HP3.out
    clear hb2 P2 hW3
    go_wp2_with (refine wpList_store_new w2 rfl 113 _ _ rfl Q rfl rfl 113 zerosP HI4.out HI5.out HI6.out ?_; rw [HW3.out])
    rw [HN0.out]
    refine bodyPost_ret (v := .tuple #[.agg #[.slice none 0 0], .bool false]) (by simp [results, Tryd.results79, go_sem, cell_of_one (one_setCell HP3.out)]) rfl ⟨_, _, _, rfl, World.ownsRow_nil _ _ _ _, B3.out.setCell (by show w.heap.size ≤ w.heap.size + 1 + 1; omega) _⟩
  | true =>
    rw [hok] at C CG CT
    have HG := Lib.hid (CG.out rfl)
    have HT := Lib.hid (CT.out rfl)
    clear hW0 hW1 hb0 p0 p1 p2 hbe hbw CG CT HNo HQ hQ hR hpic hu hv hwf he hN hz hM hok hcap
    go_enter Tryd.func79, Tryd.ntmps79
    go_wp2_with (rw [HW0.out]; fail)
    rw [HW0.out]
    go_wp2_with (rw [HW1.out]; fail)
    rw [HW1.out]
    refine C.out.mono ?_
    rintro e w2 ⟨rfl, hb2⟩
    have hs2 := hb2.size
    have P2 := (HP2.out _ hb2)
    have E2 := HE1.out _ hb2
    have B2 := Lib.hid (HB1.out.trans (hb2.mono HB1.out.size))
    have bl := (Below.refl w2.heap.size w2).alloc (Nat.le_refl _) (.cells Q 113)
    have HP3 := Lib.hid ((bl.block _ (by rw [hs1] at hs2; omega)).trans P2)
    have e3 := cell_kept bl E2
    have HQ3 := Lib.hid (heap_alloc_last w2 (.cells Q 113))
    have B3 := Lib.hid (B2.out.alloc B2.out.size (.cells Q 113))
    obtain ⟨W3, hW3⟩ : ∃ W3, w2.alloc (.cells Q 113) = W3 := ⟨_, rfl⟩
    rw [hW3] at HP3 B3 HQ3 e3
    have HW3 := Lib.hid hW3
    clear hb2 P2 hW3 E2 bl
    go_wp2_with (first | (refine wpList_store_new w2 rfl 113 _ _ rfl Q rfl rfl 113 zerosP HI4.out HI5.out HI6.out ?_; rw [HW3.out]) | (refine wpList_load_row rfl 113 _ rfl w2.heap.size rfl 113 Q (0, 0) _ HQ3.out Tryd.underlying113 rfl HI4.out ?_))
    refine (HG.out _ B3.out).mono ?_
    rintro e w4 ⟨rfl, hb4⟩
    have P4 := Lib.hid ((hb4.block _ (Array.getElem?_eq_some_iff.1 HP3.out).1).trans HP3.out)
    have B4 := Lib.hid (B3.out.trans (hb4.mono B3.out.size))
    clear hb4
    go_wp2_with fail
    refine (HT.out _).mono ?_
    rintro e w5 ⟨g4, cap4, rfl, hown4, hb4⟩
    have hp2 := (hb4.block _ (Array.getElem?_eq_some_iff.1 P4.out).1).trans P4.out
    have hfr : w5.frozen? ⟨w.heap.size + 1 + 1, 0, none⟩ = false := free_of_one hp2
    have hc2 : w5.cell? ⟨w.heap.size + 1 + 1, 0, none⟩ = some (.slice none 0 0) := cell_of_one hp2
    have O2 := Lib.hid (own_set (u := .slice (some ⟨g4, 0, none⟩) pic.length cap4) hown4 hp2 (by decide))
    have P5 := Lib.hid hp2
    have B5 := Lib.hid (B4.out.trans (hb4.mono B4.out.size))
    have hs4 := B4.out.size
    clear hown4 hp2 hb4
    go_wp2_with fail
    refine bodyPost_ret (v := .tuple #[.agg #[.slice (some ⟨g4, 0, none⟩) pic.length cap4], .bool true]) (by simp [results, Tryd.results79, go_sem, cell_of_one (one_setCell P5.out)]) rfl ⟨_, _, _, rfl, Joins.ownsRow_le O2.out hs4, B5.out.setCell (by show w.heap.size ≤ w.heap.size + 1 + 1; omega) _⟩

set_option maxHeartbeats 1000000 in
set_option maxRecDepth 100000 in
theorem impl_Close (u v : Value) (ss : List ByteArray) (xs : List (Int × Int)) (w : World) (hN : ss.length ≤ maxLen) (hz : ∀ s ∈ ss, s.size ≤ maxLen) (hu : Sl w u ss) (hM : xs.length ≤ 1048576) (hwf : ∀ p ∈ xs, (Lit.int .i64 p.1).wf = true ∧ (Lit.int .i64 p.2).wf = true) (hv : SlS w v xs) (hcap : ∀ ao n c, v = .slice ao n c → n ≤ c) (he : ErrLen w) :
    Calls Tryd.prog 36 #[.agg #[u], .agg #[v]] w (SaysPic (pxP 3 ss xs) (pxOk ss xs) w) := by
  have hb0 := bxPE_below w u v
  have C := Lib.hid (changed_3 u v ss xs (bxPE w u v) hN hz (hu.below hb0) hM hwf (hv.below hb0) hcap (he.below hb0))
  have hS := bxPE_size w u v
  have c0 := cell_of_one (bxPE_0 w u v)
  have c1 := cell_of_one (bxPE_1 w u v)
  have HB0 := Lib.hid hb0
  have L2 := Lib.hid (bxPE_2 w u v)
  obtain ⟨W0, hW0⟩ : ∃ W0, bxPE w u v = W0 := ⟨_, rfl⟩
  have HW0 : Hid (((w.alloc (.cells #[u] 42)).alloc (.cells #[v] 46)).alloc (.cells #[.slice none 0 0] 42) = W0) := hW0
  rw [hW0] at C hS c0 c1 HB0 L2
  obtain ⟨pic, hpic⟩ : ∃ x, pxP 3 ss xs = x := ⟨_, rfl⟩
  obtain ⟨ok, hok⟩ : ∃ x, pxOk ss xs = x := ⟨_, rfl⟩
  rw [hpic, hok] at C ⊢
  obtain ⟨ao, cap, rfl, _⟩ := sl_form hv
  clear hpic hok hN hz hu hM hwf hv hcap he hb0 hW0
  go_enter Tryd.func36, Tryd.ntmps36
  go_wp2_with (rw [HW0.out]; fail)
  rw [HW0.out]
  go_wp2_with fail
  refine C.out.mono ?_
  rintro e w4 ⟨g4, n4, cap4, rfl, hown4, hb4⟩
  have hp2 := (hb4.block (w.heap.size + 1 + 1) (by rw [hS]; omega)).trans L2.out
  have hfr : w4.frozen? ⟨w.heap.size + 1 + 1, 0, none⟩ = false := free_of_one hp2
  have hc2 : w4.cell? ⟨w.heap.size + 1 + 1, 0, none⟩ = some (.slice none 0 0) := cell_of_one hp2
  have O2 := Lib.hid (own_set (u := .slice g4 n4 cap4) hown4 hp2 (by decide))
  have P4 := Lib.hid hp2
  have B4 := Lib.hid (HB0.out.trans (hb4.mono (by rw [hS]; omega)))
  clear hown4 hp2 hb4
  go_wp2_with fail
  refine bodyPost_ret (v := .tuple #[.agg #[.slice g4 n4 cap4], .bool ok]) (by simp [results, Tryd.results36, go_sem, cell_of_one (one_setCell P4.out)]) rfl ⟨_, _, _, rfl, Joins.ownsRow_le O2.out (by rw [hS]; omega), B4.out.setCell (by show w.heap.size ≤ w.heap.size + 1 + 1; omega) _⟩
end Go.Proofs.YtabkkpifkkgpeaaDoor
