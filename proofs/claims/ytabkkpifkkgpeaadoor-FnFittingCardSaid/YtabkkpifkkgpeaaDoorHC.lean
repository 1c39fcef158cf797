/- Contracts of single functions, and plain lemmas, on which the exact laws of this seat rest; each holds under the conditions that it states. -/
import Derived.Test.YtabkkpifkkgpeaaDoorHA
import Derived.Test.YtabkkpifkkgpeaaDoorL15
import Derived.Test.YtabkkpifkkgpeaaDoorHB
namespace Go.Proofs.YtabkkpifkkgpeaaDoor
set_option linter.unusedVariables false
set_option linter.unusedSimpArgs false
open Go.RowKit
attribute [local go_sem] Oper.semAt_some

/-! ### what a hit shows -/
theorem mir_any (xs : List (Int × Int)) (hr : Rng xs) (F : Int → Int → Bool) (X Y : Int) : ((elL (miF xs)).any fun o => F (X - o.1) (Y - o.2)) = xs.any fun o => F (X + o.1) (Y + o.2) := by
  have h := mir_all xs hr (fun a b => !F a b) X Y
  rw [List.any_eq_not_all_not, List.any_eq_not_all_not, h]
theorem msK_pl (ss : List ByteArray) (ys : List (Int × Int)) (X Y : Int) : msK ss ys X Y ys.length = ys.all fun o => !pixI ss (X + o.1) (Y + o.2) := all_getD (fun o => !pixI ss (X + o.1) (Y + o.2))
def hmG (g : Nat → Nat) (xs ys : List (Int × Int)) : Nat → Nat := mgG 3 (shG2 g xs) (grG g (elL (miF ys))) 24
theorem hmG_plw (g : Nat → Nat) (xs ys : List (Int × Int)) : PlW (hmG g xs ys) := mgG_plw 3 _ _ 24 (mvA_plw _ _ _) (mvA_plw _ _ _)
theorem hm_pix {ss : List ByteArray} (V : VP ss) (xs ys : List (Int × Int)) (hE : ElOk xs) (hE2 : ElOk ys) (x y : Nat) (hx : x < 16) (hy : y < 16) : plX (hmG (plOf (wordsOf ss) ss.length) xs ys) y x = hmF ss xs ys y x := by
  have hg := plOf_plw (wordsOf ss) ss.length (words_small V)
  have hi : inPl (x : Int) (y : Int) = true := decide_eq_true (by omega)
  rw [plX_plF _ x y hx hy]
  unfold hmG hmF
  rw [mg_pix 3 (shG2 (plOf (wordsOf ss) ss.length) xs) (grG (plOf (wordsOf ss) ss.length) (elL (miF ys))) (mvA_plw 1 _ _), hi, Bool.true_and, sh_pix _ hg xs hE _ _ hi, fitB_pl, msK_pl]
  show jF3 _ _ = _
  unfold jF3
  have e1 : (xs.all fun o => plF (plOf (wordsOf ss) ss.length) ((x : Int) + o.1) ((y : Int) + o.2)) = plFitB (pixI ss) xs x y := by
    unfold plFitB
    exact all_congr2 fun o ho => plOf_pix V _ _
  rw [e1]
  have e2 : plF (grG (plOf (wordsOf ss) ss.length) (elL (miF ys))) x y = ys.any fun o => pixI ss ((x : Int) + o.1) ((y : Int) + o.2) := by
    unfold grG
    rw [mvA_any _ hg _ hE2.mir.2.2 _ _ hi, mir_any ys hE2.rng (plF (plOf (wordsOf ss) ss.length))]
    exact any_congr2 fun o ho => plOf_pix V _ _
  rw [e2, List.not_any_eq_all_not]
theorem hmP_no {ss : List ByteArray} {xs ys : List (Int × Int)} (h : hmOk ss xs ys = false) : hmP ss xs ys = [] := by unfold hmP; rw [h]; rfl
theorem hmP_yes {ss : List ByteArray} {xs ys : List (Int × Int)} (h : hmOk ss xs ys = true) : hmP ss xs ys = mkPic (row0 ss).size ss.length (plX (hmG (plOf (wordsOf ss) ss.length) xs ys)) := by
  unfold hmP; rw [h, if_pos rfl]
  unfold hmOk at h
  simp only [Bool.and_eq_true] at h
  have V := vp_of h.1.1
  have h1 := V.w16
  have h2 := V.n16
  exact mkPic_congr fun y hy x hx => (hm_pix V xs ys (elOk_of h.1.2) (elOk_of h.2) x y (by omega) (by omega)).symm
theorem hmP_len (ss : List ByteArray) (xs ys : List (Int × Int)) : (hmP ss xs ys).length ≤ 16 := by
  cases h : hmOk ss xs ys with
  | false => rw [hmP_no h]; simp
  | true =>
    rw [hmP_yes h, mkPic_len]
    unfold hmOk at h
    simp only [Bool.and_eq_true] at h
    exact (vp_of h.1.1).n16
theorem mir_says (v : Value) (ys : List (Int × Int)) (hE : ElOk ys) (W : World) (hv : SlS W v ys) : Calls Tryd.prog 83 #[.agg #[v]] W fun e w' => ∃ a2 n2 c2, e = .returned (.agg #[.slice a2 n2 c2]) ∧ (SlS w' (.slice a2 n2 c2) (elL (miF ys)) ∧ ∀ a n c, Value.slice a2 n2 c2 = .slice a n c → n ≤ c) ∧ Below W.heap.size W w' :=
  (mirrored_any v ys W (by have := hE.len; omega) (fun p hp => by have := hE.rng p hp; exact ⟨wfE (by omega) (by omega), wfE (by omega) (by omega)⟩) hv).mono fun e w' ⟨a2, n2, c2, he, hO, hb2⟩ => by
    refine ⟨a2, n2, c2, he, ⟨OwnS.sl hO, fun a n c h => ?_⟩, hb2⟩
    exact own_cap hO a n c h

set_option maxHeartbeats 4000000 in
set_option maxRecDepth 100000 in
theorem impl_Hit (u v v2 : Value) (ss : List ByteArray) (xs ys : List (Int × Int)) (w : World) (hN : ss.length ≤ maxLen) (hz : ∀ s ∈ ss, s.size ≤ maxLen) (hu : Sl w u ss) (hM : xs.length ≤ 1048576) (hwf : ∀ p ∈ xs, (Lit.int .i64 p.1).wf = true ∧ (Lit.int .i64 p.2).wf = true) (hv : SlS w v xs) (hcap : ∀ ao n c, v = .slice ao n c → n ≤ c)
    (hM2 : ys.length ≤ 1048576) (hwf2 : ∀ p ∈ ys, (Lit.int .i64 p.1).wf = true ∧ (Lit.int .i64 p.2).wf = true) (hv2 : SlS w v2 ys) (he : ErrLen w) :
    Calls Tryd.prog 24 #[.agg #[u], .agg #[v], .agg #[v2]] w (SaysPic (hmP ss xs ys) (hmOk ss xs ys) w) := by
  obtain ⟨W0, hW0⟩ : ∃ W0, (((w.alloc (.cells #[u] 42)).alloc (.cells #[v] 46)).alloc (.cells #[v2] 46)).alloc (.cells #[.slice none 0 0] 42) = W0 := ⟨_, rfl⟩
  have hs0 : W0.heap.size = w.heap.size + 1 + 1 + 1 + 1 := by rw [← hW0]; simp
  have hb0 : Below w.heap.size w W0 := by rw [← hW0]; exact (Joins.below_alloc3 _ _ _ _).alloc (by first | (simp; done) | (simp; omega)) _
  have p0 : W0.heap[w.heap.size]? = some (.cells #[u] 42 (0, 0)) := by
    rw [← hW0, Below.heap_alloc _ _ _ (by first | (simp; done) | (simp; omega)), Below.heap_alloc _ _ _ (by first | (simp; done) | (simp; omega)), Below.heap_alloc _ _ _ (by first | (simp; done) | (simp; omega))]; exact heap_alloc_last w _
  have p1 : W0.heap[w.heap.size + 1]? = some (.cells #[v] 46 (0, 0)) := by
    rw [← hW0, Below.heap_alloc _ _ _ (by first | (simp; done) | (simp; omega)), Below.heap_alloc _ _ _ (by first | (simp; done) | (simp; omega))]
    exact heap_alloc2_new _ _ _
  have p2 : W0.heap[w.heap.size + 1 + 1]? = some (.cells #[v2] 46 (0, 0)) := by
    rw [← hW0, Below.heap_alloc _ _ _ (by first | (simp; done) | (simp; omega))]
    have := heap_alloc_last ((w.alloc (.cells #[u] 42)).alloc (.cells #[v] 46)) (.cells #[v2] 46)
    simpa only [World.size_alloc] using this
  have p3 : W0.heap[w.heap.size + 1 + 1 + 1]? = some (.cells #[.slice none 0 0] 42 (0, 0)) := by
    rw [← hW0]
    have := heap_alloc_last (((w.alloc (.cells #[u] 42)).alloc (.cells #[v] 46)).alloc (.cells #[v2] 46)) (.cells #[.slice none 0 0] 42)
    simpa only [World.size_alloc] using this
  have HW0 := Lib.hid hW0
  have hbe := Joins.below_alloc1 W0 (.cells #[v, v2] 46)
  have hbw : Below w.heap.size w (W0.alloc (.cells #[v, v2] 46)) := hb0.alloc hb0.size _
  have C := Lib.hid (planeWith_any2 (w.heap.size + 1 + 1 + 1 + 1) u v v2 ss xs ys (W0.alloc (.cells #[v, v2] 46)) hN hz (hu.below hbw) hM hwf (hv.below hbw) hM2 hwf2 (hv2.below hbw) (he.below hbw) (by have := heap_alloc_last W0 (.cells #[v, v2] 46); rw [hs0] at this; exact this))
  rw [show pxOk2 ss xs ys = hmOk ss xs ys from rfl] at C
  have hs1 : (W0.alloc (.cells #[v, v2] 46)).heap.size = w.heap.size + 5 := by rw [World.size_alloc, hs0]
  obtain ⟨G1, hG1⟩ : ∃ x, pl (row0 ss).size ss.length (grG (plOf (wordsOf ss) ss.length) (elL (miF ys))) = x := ⟨_, rfl⟩
  obtain ⟨S1, hS1⟩ : ∃ x, pl (row0 ss).size ss.length (shG2 (plOf (wordsOf ss) ss.length) xs) = x := ⟨_, rfl⟩
  obtain ⟨MX, hMX⟩ : ∃ x, pl (row0 ss).size ss.length (hmG (plOf (wordsOf ss) ss.length) xs ys) = x := ⟨_, rfl⟩
  have CMi0 : hmOk ss xs ys = true → ∀ W, Below w.heap.size w W → Calls Tryd.prog 83 #[.agg #[v2]] W fun e w' => ∃ a2 n2 c2, e = .returned (.agg #[.slice a2 n2 c2]) ∧ (SlS w' (.slice a2 n2 c2) (elL (miF ys)) ∧ ∀ a n c, Value.slice a2 n2 c2 = .slice a n c → n ≤ c) ∧ Below W.heap.size W w' := fun h W hb => by
    unfold hmOk at h
    simp only [Bool.and_eq_true] at h
    exact mir_says v2 ys (elOk_of h.2) W (hv2.below hb)
  have CGr0 : hmOk ss xs ys = true → ∀ v3 W, SlS W v3 (elL (miF ys)) → (∀ a n c, v3 = .slice a n c → n ≤ c) → Calls Tryd.prog 81 #[.agg (plOk2 ss xs ys), .agg #[v3]] W fun e w' => e = .returned (.agg G1) ∧ Below W.heap.size W w' := fun h v3 W h1 h2 => by
    have h' := h
    unfold hmOk at h'
    simp only [Bool.and_eq_true] at h'
    have hE := elOk_of h'.2
    rw [plOk2_yes h, ← hG1]
    exact grown_any81 _ _ _ v3 _ W (plOf_plw _ _ (words_small (vp_of h'.1.1))) h1 h2 hE.mir.1 hE.mir.2.1 hE.mir.2.2
  have CSh0 : hmOk ss xs ys = true → ∀ W, Below w.heap.size w W → Calls Tryd.prog 80 #[.agg (plOk2 ss xs ys), .agg #[v]] W fun e w' => e = .returned (.agg S1) ∧ Below W.heap.size W w' := fun h W hb => by
    have h' := h
    unfold hmOk at h'
    simp only [Bool.and_eq_true] at h'
    rw [plOk2_yes h, ← hS1]
    exact shrunk_any _ _ _ v xs W (plOf_plw _ _ (words_small (vp_of h'.1.1))) (hv.below hb) hcap (elOk_of h'.1.2)
  have CMg0 : ∀ W, Calls Tryd.prog 84 #[.agg S1, .agg G1, ruleV 3] W fun e w' => e = .returned (.agg MX) ∧ Below W.heap.size W w' := fun W => by
    rw [← hS1, ← hG1, ← hMX]
    exact merged_any 3 _ _ _ _ _ _ W (by omega) (mvA_plw _ _ _) (mvA_plw _ _ _)
  have CT0 : hmOk ss xs ys = true → ∀ W, Calls Tryd.prog 86 #[.agg MX] W (TookPic W (hmP ss xs ys)) := fun h W => by
    rw [hmP_yes h, ← hMX]
    unfold hmOk at h
    simp only [Bool.and_eq_true] at h
    have V := vp_of h.1.1
    exact planePic_any _ _ _ W ⟨V.w1, V.w16⟩ ⟨V.n1, V.n16⟩ (hmG_plw _ _ _)
  have HQ : Hid ((plOk2 ss xs ys).size = 26 ∧ (plOk2 ss xs ys).all (·.oneCell') = true) := by
    show _ ∧ _
    unfold plOk2; split
    · exact ⟨pl_size _ _ _, pl_one _ _ _⟩
    · exact ⟨rfl, pcells_one _ _ _⟩
  have HIg : Hid ((Tryd.prog.info? 113).map (·.size) = some G1.size) := by show _ = _; rw [← hG1]; exact infoPl
  have HZg : Hid (zerosP.size = G1.size) := by show _ = _; rw [← hG1]; rfl
  have HOg : Hid (G1.all (·.oneCell') = true) := by show _ = _; rw [← hG1]; exact pl_one _ _ _
  have HNo : Hid (hmOk ss xs ys = false → hmP ss xs ys = []) := hmP_no
  obtain ⟨Q, hQ⟩ : ∃ Q, plOk2 ss xs ys = Q := ⟨_, rfl⟩
  rw [hQ] at C CGr0 CSh0 HQ
  obtain ⟨pic, hpic⟩ : ∃ x, hmP ss xs ys = x := ⟨_, rfl⟩
  rw [hpic] at CT0 HNo ⊢
  have HI4 : Hid ((Tryd.prog.info? 113).map (·.size) = some Q.size) := by show _ = _; rw [HQ.out.1]; exact infoPl
  have HI5 : Hid (zerosP.size = Q.size) := by show _ = _; rw [HQ.out.1]; rfl
  have HI6 : Hid (Q.all (·.oneCell') = true) := HQ.out.2
  have c0 := cell_of_one p0
  have c1 := cell_of_one p1
  have c2 := cell_of_one p2
  have HE1 : Hid (∀ W, Below (W0.alloc (.cells #[v, v2] 46)).heap.size (W0.alloc (.cells #[v, v2] 46)) W → W.cell? ⟨w.heap.size + 1, 0, none⟩ = some v ∧ W.cell? ⟨w.heap.size + 1 + 1, 0, none⟩ = some v2) := fun W hb => ⟨cell_kept hb (cell_kept hbe c1), cell_kept hb (cell_kept hbe c2)⟩
  have HP2 : Hid (∀ W, Below (W0.alloc (.cells #[v, v2] 46)).heap.size (W0.alloc (.cells #[v, v2] 46)) W → W.heap[w.heap.size + 1 + 1 + 1]? = some (.cells #[.slice none 0 0] 42 (0, 0))) := fun W hb => (hb.block _ (by rw [hs1]; omega)).trans ((hbe.block _ (by rw [hs0]; omega)).trans p3)
  obtain ⟨W1, hW1⟩ : ∃ W1, W0.alloc (.cells #[v, v2] 46) = W1 := ⟨_, rfl⟩
  rw [hW1] at C hs1 hbw HE1 HP2
  have HW1 := Lib.hid hW1
  have HB1 := Lib.hid hbw
  obtain ⟨ao, cap, rfl, _⟩ := sl_form hv
  obtain ⟨ao2, cap2, rfl, _⟩ := sl_form hv2
  cases hok : hmOk ss xs ys with
  | false =>
    rw [hok] at C HNo
    have HN0 := Lib.hid (HNo.out rfl)
    clear hW0 hW1 hb0 p0 p1 p2 p3 hbe hbw CMi0 CGr0 CSh0 CMg0 CT0 HNo HQ hQ hG1 hS1 hMX hpic hu hv hwf hv2 hwf2 he hN hz hM hM2 hok hcap hs0
    go_enter Tryd.func24, Tryd.ntmps24
    go_wp2_with (rw [HW0.out]; fail)
    rw [HW0.out]
    go_wp2_with (rw [HW1.out]; fail)
    rw [HW1.out]
    refine C.out.mono ?_
    rintro e w2 ⟨rfl, hb2⟩
    have hs2 := hb2.size
    have P2 := (HP2.out _ hb2)
    have B2 := Lib.hid (HB1.out.trans (hb2.mono HB1.out.size))
    have HP3 := Lib.hid ((((Below.refl _ _).alloc (Nat.le_refl _) (.cells Q 113)).block _ (by rw [hs1] at hs2; omega)).trans P2)
    have B3 := Lib.hid (B2.out.alloc B2.out.size (.cells Q 113))
    obtain ⟨W3, hW3⟩ : ∃ W3, w2.alloc (.cells Q 113) = W3 := ⟨_, rfl⟩
    rw [hW3] at HP3 B3
    have HW3 := Lib.hid hW3
    have hfr : W3.frozen? ⟨w.heap.size + 1 + 1 + 1, 0, none⟩ = false := free_of_one HP3.out
    have hc2 : W3.cell? ⟨w.heap.size + 1 + 1 + 1, 0, none⟩ = some (.slice none 0 0) := cell_of_one HP3.out
    clear hb2 P2 hW3
    go_wp2_with (refine wpList_store_new w2 rfl 113 _ _ rfl Q rfl rfl 113 zerosP HI4.out HI5.out HI6.out ?_; rw [HW3.out])
    rw [HN0.out]
    refine bodyPost_ret (v := .tuple #[.agg #[.slice none 0 0], .bool false]) (by simp [results, Tryd.results24, go_sem, cell_of_one (one_setCell HP3.out)]) rfl ⟨_, _, _, rfl, World.ownsRow_nil _ _ _ _, B3.out.setCell (by show w.heap.size ≤ w.heap.size + 1 + 1 + 1; omega) _⟩
  | true =>
    rw [hok] at C
    have CMi1 := Lib.hid (CMi0 hok)
    have CGr := Lib.hid (CGr0 hok)
    have CSh1 := Lib.hid (CSh0 hok)
    have CMg := Lib.hid CMg0
    have CT := Lib.hid (CT0 hok)
    have hmf : ∀ (fn : Fn) (first cap : Array Value) (w : World), (Instr.makeFunc fn first cap).run Tryd.prog w = .ok (.func fn first cap) w := fun _ _ _ _ => rfl
    unfold TookPic at CT
    clear hW0 hW1 hb0 p0 p1 p2 p3 hbe hbw CMi0 CGr0 CSh0 CMg0 CT0 HNo HQ hQ hG1 hS1 hMX hpic hu hv hwf hv2 hwf2 he hN hz hM hM2 hok hcap hs0
    go_enter Tryd.func24, Tryd.ntmps24
    go_wp2_with (rw [HW0.out]; fail)
    rw [HW0.out]
    go_wp2_with (rw [HW1.out]; fail)
    rw [HW1.out]
    refine C.out.mono ?_
    rintro e w2 ⟨rfl, hb2⟩
    have hs2 := hb2.size
    have bl := (Below.refl w2.heap.size w2).alloc (Nat.le_refl _) (.cells Q 113)
    have hb3 := hb2.trans (bl.mono hb2.size)
    have HQ3' := Lib.hid (heap_alloc_last w2 (.cells Q 113))
    obtain ⟨W3, hW3⟩ : ∃ W3, w2.alloc (.cells Q 113) = W3 := ⟨_, rfl⟩
    have hl3 : w2.heap.size < W3.heap.size := by rw [← hW3]; simp
    rw [hW3] at hb3 HQ3'
    have HW3 := Lib.hid hW3
    have B3 := Lib.hid (HB1.out.trans (hb3.mono HB1.out.size))
    have HQ3 : Hid (∀ W, Below W3.heap.size W3 W → W.heap[w2.heap.size]? = some (.cells Q 113 (0, 0))) := fun W hb => (hb.block _ hl3).trans HQ3'.out
    have HC3 : Hid (∀ W, Below W3.heap.size W3 W → W.cell? ⟨w.heap.size + 1, 0, none⟩ = some (.slice ao xs.length cap) ∧ W.cell? ⟨w.heap.size + 1 + 1, 0, none⟩ = some (.slice ao2 ys.length cap2)) := fun W hb => HE1.out W (hb3.trans (hb.mono hb3.size))
    have KR : Hid (∀ W, Below W3.heap.size W3 W → W.heap[w.heap.size + 1 + 1 + 1]? = some (.cells #[.slice none 0 0] 42 (0, 0))) := fun W hb => HP2.out W (hb3.trans (hb.mono hb3.size))
    have CMi : Hid (∀ W, Below W3.heap.size W3 W → Calls Tryd.prog 83 #[.agg #[.slice ao2 ys.length cap2]] W fun e w' => ∃ a2 n2 c2, e = .returned (.agg #[.slice a2 n2 c2]) ∧ (SlS w' (.slice a2 n2 c2) (elL (miF ys)) ∧ ∀ a n c, Value.slice a2 n2 c2 = .slice a n c → n ≤ c) ∧ Below W.heap.size W w') := fun W hb => CMi1.out W (B3.out.trans (hb.mono B3.out.size))
    have CSh : Hid (∀ W, Below W3.heap.size W3 W → Calls Tryd.prog 80 #[.agg Q, .agg #[.slice ao xs.length cap]] W fun e w' => e = .returned (.agg S1) ∧ Below W.heap.size W w') := fun W hb => CSh1.out W (B3.out.trans (hb.mono B3.out.size))
    have hle := B3.out.size
    clear hb2 hW3 bl hb3 HQ3' CMi1 CSh1 hs1 c0 c1 c2
    go_upto_region 4 with (refine wpList_store_new w2 rfl 113 _ _ rfl Q rfl rfl 113 zerosP HI4.out HI5.out HI6.out ?_; rw [HW3.out])
    refine wp_region_inv_at (by kernel_rfl) (fun A0 L A W => ∃ (b0 b1 b2 b3 b4 b5 : Bool) (v22 v23 v24 v25 v10 : Value), L = #[b0, b1, b2, b3, b4, b5] ∧ A = (((((A0.put (some 22) v22).put (some 23) v23).put (some 24) v24).put (some 25) v25).put (some 10) v10) ∧ (Below W3.heap.size W3 W) ∧ Hid (b0 = true → v22 = .agg Q) ∧ Hid (b1 = true → v23 = .agg #[.slice ao2 ys.length cap2]) ∧ Hid (b2 = true → b3 = false → ∃ a3 n3 c3, v24 = .agg #[.slice a3 n3 c3] ∧ (SlS W (.slice a3 n3 c3) (elL (miF ys)) ∧ ∀ a n c, Value.slice a3 n3 c3 = .slice a n c → n ≤ c)) ∧ Hid (b3 = true → v25 = .agg G1) ∧ Hid (b4 = true → ∃ mb, v10 = .pointer (some ⟨mb, 0, none⟩) ∧ W3.heap.size ≤ mb ∧ W.heap[mb]? = some (.cells (if b5 = true then G1 else #[.int .i64 0, .int .i64 0, .int .u32 0, .int .u32 0, .int .u32 0, .int .u32 0, .int .u32 0, .int .u32 0, .int .u32 0, .int .u32 0, .int .u32 0, .int .u32 0, .int .u32 0, .int .u32 0, .int .u32 0, .int .u32 0, .int .u32 0, .int .u32 0, .int .u32 0, .int .u32 0, .int .u32 0, .int .u32 0, .int .u32 0, .int .u32 0, .int .u32 0, .int .u32 0]) 113 (0, 0))) ∧ Hid (b4 = false → b5 = false)) ?_ ?_ ?_
    · intro A0
      refine ⟨false, false, false, false, false, false, A0.tmps.getD 22 undef, A0.tmps.getD 23 undef, A0.tmps.getD 24 undef, A0.tmps.getD 25 undef, A0.tmps.getD 10 undef, rfl, (by simp only [put_self]), (Below.refl _ _).drew, Lib.hid (fun hf => by cases hf), Lib.hid (fun hf => by cases hf), Lib.hid (fun hf => by cases hf), Lib.hid (fun hf => by cases hf), Lib.hid (fun hf => by cases hf), Lib.hid (fun _ => rfl)⟩
    · intro L A W hI i hi o ho K' hK
      have hlt := (ready_left hi).1
      have hun := (ready_left hi).2
      have haf := ready_after hi ho
      clear hi
      obtain ⟨b0, b1, b2, b3, b4, b5, v22, v23, v24, v25, v10, rfl, rfl, hB, h0, h1, h2, h3, h4, n4⟩ := hI
      have hc : i = 0 ∨ i = 1 ∨ i = 2 ∨ i = 3 ∨ i = 4 ∨ i = 5 := by
        simp at hlt
        omega
      have qQ := HQ3.out W hB
      have q2 := (HC3.out W hB).2
      rcases hc with rfl | rfl | rfl | rfl | rfl | rfl
      all_goals (obtain rfl := Option.some.inj ho; clear ho; simp [Region.binds] at haf hun; (try simp only [List.getElem_toArray, List.getElem_cons_zero, List.getElem_cons_succ]); simp only [Act.put, List.setIfInBounds_toArray, List.set_cons_zero, List.set_cons_succ])
      · -- operation 0
        replace hK := Lib.hid hK
        subst hun
        rw [if_pos (by simp [Region.wanted])]
        refine wp_load_row 113 _ rfl w2.heap.size rfl 113 Q (0, 0) _ qQ Tryd.underlying113 rfl HI4.out ?_
        exact hK.out _ _ ⟨true, b1, b2, b3, b4, b5, .agg Q, v23, v24, v25, v10, rfl, (by simp only [Act.put, List.setIfInBounds_toArray, List.set_cons_zero, List.set_cons_succ]), hB, Lib.hid (fun _ => rfl), h1, h2, h3, h4, n4⟩
      · -- operation 1
        replace hK := Lib.hid hK
        subst hun
        go_simp
        exact hK.out _ _ ⟨b0, true, b2, b3, b4, b5, v22, .agg #[.slice ao2 ys.length cap2], v24, v25, v10, rfl, (by simp only [Act.put, List.setIfInBounds_toArray, List.set_cons_zero, List.set_cons_succ]), hB, h0, Lib.hid (fun _ => rfl), h2, h3, h4, n4⟩
      · -- operation 2
        replace hK := Lib.hid hK
        obtain rfl := h1.out (by simp only [haf])
        subst hun
        go_simp
        refine (CMi.out _ hB).mono ?_
        rintro e W' ⟨a3, n3, c3, rfl, hf, hb⟩
        have hkept := fun kb (hk : kb < W.heap.size) => hb.block kb hk
        exact hK.out _ _ ⟨b0, b1, true, b3, b4, b5, v22, .agg #[.slice ao2 ys.length cap2], .agg #[.slice a3 n3 c3], v25, v10, rfl, (by simp only [Act.put, List.setIfInBounds_toArray, List.set_cons_zero, List.set_cons_succ]), hB.trans (hb.mono hB.size), h0, Lib.hid (fun _ => rfl), Lib.hid (fun _ _ => ⟨a3, n3, c3, rfl, hf⟩), h3, Lib.hid (fun hx => by obtain ⟨kb, e1, e2, e3⟩ := h4.out hx; exact ⟨kb, e1, e2, (hkept kb (Array.getElem?_eq_some_iff.1 e3).1).trans e3⟩), n4⟩
      · -- operation 3
        replace hK := Lib.hid hK
        obtain rfl := h0.out (by simp only [haf])
        obtain ⟨a3, n3, c3, rfl, hf2⟩ := h2.out (by simp only [haf]) (by first | exact hun | simp only [haf])
        subst hun
        go_simp
        refine (CGr.out _ _ hf2.1 hf2.2).mono ?_
        rintro e W' ⟨rfl, hb⟩
        have hkept := fun kb (hk : kb < W.heap.size) => hb.block kb hk
        exact hK.out _ _ ⟨b0, b1, b2, true, b4, b5, .agg Q, v23, .agg #[.slice a3 n3 c3], .agg G1, v10, rfl, (by simp only [Act.put, List.setIfInBounds_toArray, List.set_cons_zero, List.set_cons_succ]), hB.trans (hb.mono hB.size), Lib.hid (fun _ => rfl), h1, Lib.hid (fun _ hu => by cases hu), Lib.hid (fun _ => rfl), Lib.hid (fun hx => by obtain ⟨kb, e1, e2, e3⟩ := h4.out hx; exact ⟨kb, e1, e2, (hkept kb (Array.getElem?_eq_some_iff.1 e3).1).trans e3⟩), n4⟩
      · -- operation 4
        replace hK := Lib.hid hK
        subst hun
        have hbs : b5 = false := n4.out rfl
        subst hbs
        go_simp
        have hkept := fun kb (hk : kb < W.heap.size) => Below.heap_alloc W (.cells #[.int .i64 0, .int .i64 0, .int .u32 0, .int .u32 0, .int .u32 0, .int .u32 0, .int .u32 0, .int .u32 0, .int .u32 0, .int .u32 0, .int .u32 0, .int .u32 0, .int .u32 0, .int .u32 0, .int .u32 0, .int .u32 0, .int .u32 0, .int .u32 0, .int .u32 0, .int .u32 0, .int .u32 0, .int .u32 0, .int .u32 0, .int .u32 0, .int .u32 0, .int .u32 0] 113) kb hk
        have hb := Joins.below_alloc1 W (.cells #[.int .i64 0, .int .i64 0, .int .u32 0, .int .u32 0, .int .u32 0, .int .u32 0, .int .u32 0, .int .u32 0, .int .u32 0, .int .u32 0, .int .u32 0, .int .u32 0, .int .u32 0, .int .u32 0, .int .u32 0, .int .u32 0, .int .u32 0, .int .u32 0, .int .u32 0, .int .u32 0, .int .u32 0, .int .u32 0, .int .u32 0, .int .u32 0, .int .u32 0, .int .u32 0] 113)
        exact hK.out _ _ ⟨b0, b1, b2, b3, true, false, v22, v23, v24, v25, .pointer (some ⟨W.heap.size, 0, none⟩), rfl, (by simp only [Act.put, List.setIfInBounds_toArray, List.set_cons_zero, List.set_cons_succ]), hB.alloc hB.size _, h0, h1, Lib.hid (fun hx hu => by obtain ⟨a3, n3, c3, e1, fx⟩ := h2.out hx hu; exact ⟨a3, n3, c3, e1, ⟨fx.1.below hb, fx.2⟩⟩), h3, Lib.hid (fun _ => ⟨_, rfl, hB.size, heap_alloc_last W _⟩), Lib.hid (fun hf => by cases hf)⟩
      · -- operation 5
        replace hK := Lib.hid hK
        obtain rfl := h3.out (by simp only [haf])
        obtain ⟨mb, rfl, hmb, hm2⟩ := h4.out (by simp only [haf])
        subst hun
        simp only [Bool.false_eq_true, if_false] at hm2
        rw [if_pos (by simp [Region.wanted])]
        refine wp_store_row 113 _ _ rfl mb G1 rfl rfl 113 (#[.int .i64 0, .int .i64 0, .int .u32 0, .int .u32 0, .int .u32 0, .int .u32 0, .int .u32 0, .int .u32 0, .int .u32 0, .int .u32 0, .int .u32 0, .int .u32 0, .int .u32 0, .int .u32 0, .int .u32 0, .int .u32 0, .int .u32 0, .int .u32 0, .int .u32 0, .int .u32 0, .int .u32 0, .int .u32 0, .int .u32 0, .int .u32 0, .int .u32 0, .int .u32 0]) hm2 HIg.out HZg.out HOg.out ?_
        have hnew : (W.setRow mb G1).heap[mb]? = some (.cells G1 113 (0, 0)) := setRow_heap _ _ _ _ _ _ hm2
        have hBn := setRow_below hB hmb G1
        have hoth : ∀ kb, kb ≠ mb → (W.setRow mb G1).heap[kb]? = W.heap[kb]? := fun kb hk => setRow_other W mb kb G1 hk
        exact hK.out _ _ ⟨b0, b1, b2, b3, b4, true, v22, v23, v24, .agg G1, .pointer (some ⟨mb, 0, none⟩), rfl, (by simp only [Act.put, List.setIfInBounds_toArray, List.set_cons_zero, List.set_cons_succ]), hBn, h0, h1, Lib.hid (fun _ hu => absurd (show false = true from hu.symm.trans (by simp only [haf])) (by decide)), Lib.hid (fun _ => rfl), Lib.hid (fun _ => ⟨mb, rfl, hmb, hnew⟩), Lib.hid (fun hf => absurd (show false = true from hf.symm.trans (by simp only [haf])) (by decide))⟩
    intro L A W hI hr
    obtain ⟨b0, b1, b2, b3, b4, b5, v22, v23, v24, v25, v10, rfl, rfl, hB, h0, h1, h2, h3, h4, n4⟩ := hI
    have d0 := ready_done hr 0 _ rfl (by simp [Region.binds])
    have d1 := ready_done hr 1 _ rfl (by simp [Region.binds])
    have d4 := ready_done hr 4 _ rfl (by simp [Region.binds])
    simp at d0 d1 d4
    subst d0 d1 d4
    have d2 := ready_done hr 2 _ rfl (by simp [Region.binds])
    simp at d2
    subst d2
    have d3 := ready_done hr 3 _ rfl (by simp [Region.binds])
    simp at d3
    subst d3
    have d5 := ready_done hr 5 _ rfl (by simp [Region.binds])
    simp at d5
    subst d5
    obtain rfl := h0.out rfl
    obtain rfl := h1.out rfl
    obtain rfl := h3.out rfl
    obtain ⟨mb4, rfl, hmb4, hm4⟩ := h4.out rfl
    simp only [Act.put, List.setIfInBounds_toArray, List.set_cons_zero, List.set_cons_succ]
    clear hr h0 h1 h2 h3 h4 n4
    have HA := Lib.hid hm4
    have HAl := Lib.hid hmb4
    have B4 := Lib.hid (B3.out.trans (hB.mono B3.out.size))
    have HX4 : Hid (∀ W', Below W.heap.size W W' → Below W3.heap.size W3 W') := fun W' hb => hB.trans (hb.mono hB.size)
    clear hm4 hmb4 hB
    obtain ⟨WR, rfl⟩ : ∃ WR, WR = W := ⟨_, rfl⟩
    have HA4 : Hid (∀ W', Below WR.heap.size WR W' → W'.heap[mb4]? = some (.cells G1 113 (0, 0))) := fun W' hb => (hb.block _ (Array.getElem?_eq_some_iff.1 HA.out).1).trans HA.out
    clear HA
    go_upto_region 5 with fail
    refine wp_region_inv_at (by kernel_rfl) (fun A0 L A W => ∃ (b0 b1 b2 b3 b4 b5 b6 b7 b8 : Bool) (v26 v27 v28 v29 v30 v31 v32 v7 : Value) (g5 c5 : Nat), L = #[b0, b1, b2, b3, b4, b5, b6, b7, b8] ∧ A = ((((((((A0.put (some 26) v26).put (some 27) v27).put (some 28) v28).put (some 29) v29).put (some 30) v30).put (some 31) v31).put (some 32) v32).put (some 7) v7) ∧ (∃ Wp, Below WR.heap.size WR Wp ∧ Hid (b6 = true → OwnP Wp w.heap.size (.slice (some ⟨g5, 0, none⟩) pic.length c5) pic) ∧ W = (if b7 = true then Wp.setCell ⟨w.heap.size + 1 + 1 + 1, 0, none⟩ (.slice (some ⟨g5, 0, none⟩) pic.length c5) else Wp)) ∧ Hid (b0 = true → v26 = .agg Q) ∧ Hid (b1 = true → v27 = .agg #[.slice ao xs.length cap]) ∧ Hid (b2 = true → v28 = .agg S1) ∧ Hid (b3 = true → v29 = .agg G1) ∧ Hid (b4 = true → v30 = .func (.func 85) #[.int .i64 3] #[]) ∧ Hid (b5 = true → v31 = .agg MX) ∧ Hid (b6 = true → v32 = .agg #[.slice (some ⟨g5, 0, none⟩) pic.length c5]) ∧ Hid (b8 = true → v7 = .bool true) ∧ Hid ((b0 = false → b7 = false) ∧ (b1 = false → b7 = false) ∧ (b2 = false → b7 = false) ∧ (b3 = false → b7 = false) ∧ (b4 = false → b7 = false) ∧ (b5 = false → b7 = false) ∧ (b6 = false → b7 = false))) ?_ ?_ ?_
    · intro A0
      refine ⟨false, false, false, false, false, false, false, false, false, A0.tmps.getD 26 undef, A0.tmps.getD 27 undef, A0.tmps.getD 28 undef, A0.tmps.getD 29 undef, A0.tmps.getD 30 undef, A0.tmps.getD 31 undef, A0.tmps.getD 32 undef, A0.tmps.getD 7 undef, 0, 0, rfl, (by simp only [put_self]), ⟨_, (Below.refl _ _).drew, Lib.hid (fun hf => by cases hf), rfl⟩, Lib.hid (fun hf => by cases hf), Lib.hid (fun hf => by cases hf), Lib.hid (fun hf => by cases hf), Lib.hid (fun hf => by cases hf), Lib.hid (fun hf => by cases hf), Lib.hid (fun hf => by cases hf), Lib.hid (fun hf => by cases hf), Lib.hid (fun hf => by cases hf), Lib.hid ⟨fun _ => rfl, fun _ => rfl, fun _ => rfl, fun _ => rfl, fun _ => rfl, fun _ => rfl, fun _ => rfl⟩⟩
    · intro L A W hI i hi o ho K' hK
      have hlt := (ready_left hi).1
      have hun := (ready_left hi).2
      have haf := ready_after hi ho
      clear hi
      obtain ⟨b0, b1, b2, b3, b4, b5, b6, b7, b8, v26, v27, v28, v29, v30, v31, v32, v7, g5, c5, rfl, rfl, hB, h0, h1, h2, h3, h4, h5, h6, h8, p⟩ := hI
      have hc : i = 0 ∨ i = 1 ∨ i = 2 ∨ i = 3 ∨ i = 4 ∨ i = 5 ∨ i = 6 ∨ i = 7 ∨ i = 8 := by
        simp at hlt
        omega
      rcases hc with rfl | rfl | rfl | rfl | rfl | rfl | rfl | rfl | rfl
      all_goals (obtain rfl := Option.some.inj ho; clear ho; simp [Region.binds] at haf hun; (try simp only [List.getElem_toArray, List.getElem_cons_zero, List.getElem_cons_succ]); simp only [Act.put, List.setIfInBounds_toArray, List.set_cons_zero, List.set_cons_succ])
      · -- operation 0
        replace hK := Lib.hid hK
        have hlast : b7 = false := p.out.1 hun
        subst hlast
        obtain ⟨Wp, hB, hgf, hWp⟩ := hB
        have hWq : W = Wp := by simpa using hWp
        clear hWp
        subst hWq
        have qQ := HQ3.out W (HX4.out W hB)
        have q1 := (HC3.out W (HX4.out W hB)).1
        have qG := HA4.out W hB
        have qR := KR.out W (HX4.out W hB)
        have qr0 := cell_of_one qR
        have qr1 := free_of_one qR
        subst hun
        rw [if_pos (by simp [Region.wanted])]
        refine wp_load_row 113 _ rfl w2.heap.size rfl 113 Q (0, 0) _ qQ Tryd.underlying113 rfl HI4.out ?_
        exact hK.out _ _ ⟨true, b1, b2, b3, b4, b5, b6, false, b8, .agg Q, v27, v28, v29, v30, v31, v32, v7, g5, c5, rfl, (by simp only [Act.put, List.setIfInBounds_toArray, List.set_cons_zero, List.set_cons_succ]), ⟨_, hB, hgf, rfl⟩, Lib.hid (fun _ => rfl), h1, h2, h3, h4, h5, h6, h8, Lib.hid ⟨(fun hf => by cases hf), (fun _ => rfl), (fun _ => rfl), (fun _ => rfl), (fun _ => rfl), (fun _ => rfl), (fun _ => rfl)⟩⟩
      · -- operation 1
        replace hK := Lib.hid hK
        have hlast : b7 = false := p.out.2.1 hun
        subst hlast
        obtain ⟨Wp, hB, hgf, hWp⟩ := hB
        have hWq : W = Wp := by simpa using hWp
        clear hWp
        subst hWq
        have qQ := HQ3.out W (HX4.out W hB)
        have q1 := (HC3.out W (HX4.out W hB)).1
        have qG := HA4.out W hB
        have qR := KR.out W (HX4.out W hB)
        have qr0 := cell_of_one qR
        have qr1 := free_of_one qR
        subst hun
        go_simp
        exact hK.out _ _ ⟨b0, true, b2, b3, b4, b5, b6, false, b8, v26, .agg #[.slice ao xs.length cap], v28, v29, v30, v31, v32, v7, g5, c5, rfl, (by simp only [Act.put, List.setIfInBounds_toArray, List.set_cons_zero, List.set_cons_succ]), ⟨_, hB, hgf, rfl⟩, h0, Lib.hid (fun _ => rfl), h2, h3, h4, h5, h6, h8, Lib.hid ⟨(fun _ => rfl), (fun hf => by cases hf), (fun _ => rfl), (fun _ => rfl), (fun _ => rfl), (fun _ => rfl), (fun _ => rfl)⟩⟩
      · -- operation 2
        replace hK := Lib.hid hK
        have hlast : b7 = false := p.out.2.2.1 hun
        subst hlast
        obtain ⟨Wp, hB, hgf, hWp⟩ := hB
        have hWq : W = Wp := by simpa using hWp
        clear hWp
        subst hWq
        have qQ := HQ3.out W (HX4.out W hB)
        have q1 := (HC3.out W (HX4.out W hB)).1
        have qG := HA4.out W hB
        have qR := KR.out W (HX4.out W hB)
        have qr0 := cell_of_one qR
        have qr1 := free_of_one qR
        obtain rfl := h0.out (by simp only [haf])
        obtain rfl := h1.out (by simp only [haf])
        subst hun
        go_simp
        refine (CSh.out _ (HX4.out _ hB)).mono ?_
        rintro e W' ⟨rfl, hb⟩
        have hkept := fun kb (hk : kb < W.heap.size) => hb.block kb hk
        exact hK.out _ _ ⟨b0, b1, true, b3, b4, b5, b6, false, b8, .agg Q, .agg #[.slice ao xs.length cap], .agg S1, v29, v30, v31, v32, v7, g5, c5, rfl, (by simp only [Act.put, List.setIfInBounds_toArray, List.set_cons_zero, List.set_cons_succ]), ⟨_, hB.trans (hb.mono hB.size), Lib.hid (fun hx => OwnP.below (hgf.out hx) hb), rfl⟩, Lib.hid (fun _ => rfl), Lib.hid (fun _ => rfl), Lib.hid (fun _ => rfl), h3, h4, h5, h6, h8, Lib.hid ⟨(fun _ => rfl), (fun _ => rfl), (fun hf => by cases hf), (fun _ => rfl), (fun _ => rfl), (fun _ => rfl), (fun _ => rfl)⟩⟩
      · -- operation 3
        replace hK := Lib.hid hK
        have hlast : b7 = false := p.out.2.2.2.1 hun
        subst hlast
        obtain ⟨Wp, hB, hgf, hWp⟩ := hB
        have hWq : W = Wp := by simpa using hWp
        clear hWp
        subst hWq
        have qQ := HQ3.out W (HX4.out W hB)
        have q1 := (HC3.out W (HX4.out W hB)).1
        have qG := HA4.out W hB
        have qR := KR.out W (HX4.out W hB)
        have qr0 := cell_of_one qR
        have qr1 := free_of_one qR
        subst hun
        rw [if_pos (by simp [Region.wanted])]
        refine wp_load_row 113 _ rfl mb4 rfl 113 G1 (0, 0) _ qG Tryd.underlying113 rfl HIg.out ?_
        exact hK.out _ _ ⟨b0, b1, b2, true, b4, b5, b6, false, b8, v26, v27, v28, .agg G1, v30, v31, v32, v7, g5, c5, rfl, (by simp only [Act.put, List.setIfInBounds_toArray, List.set_cons_zero, List.set_cons_succ]), ⟨_, hB, hgf, rfl⟩, h0, h1, h2, Lib.hid (fun _ => rfl), h4, h5, h6, h8, Lib.hid ⟨(fun _ => rfl), (fun _ => rfl), (fun _ => rfl), (fun hf => by cases hf), (fun _ => rfl), (fun _ => rfl), (fun _ => rfl)⟩⟩
      · -- operation 4
        replace hK := Lib.hid hK
        have hlast : b7 = false := p.out.2.2.2.2.1 hun
        subst hlast
        obtain ⟨Wp, hB, hgf, hWp⟩ := hB
        have hWq : W = Wp := by simpa using hWp
        clear hWp
        subst hWq
        have qQ := HQ3.out W (HX4.out W hB)
        have q1 := (HC3.out W (HX4.out W hB)).1
        have qG := HA4.out W hB
        have qR := KR.out W (HX4.out W hB)
        have qr0 := cell_of_one qR
        have qr1 := free_of_one qR
        subst hun
        go_simp
        exact hK.out _ _ ⟨b0, b1, b2, b3, true, b5, b6, false, b8, v26, v27, v28, v29, .func (.func 85) #[.int .i64 3] #[], v31, v32, v7, g5, c5, rfl, (by simp only [Act.put, List.setIfInBounds_toArray, List.set_cons_zero, List.set_cons_succ]), ⟨_, hB, hgf, rfl⟩, h0, h1, h2, h3, Lib.hid (fun _ => rfl), h5, h6, h8, Lib.hid ⟨(fun _ => rfl), (fun _ => rfl), (fun _ => rfl), (fun _ => rfl), (fun hf => by cases hf), (fun _ => rfl), (fun _ => rfl)⟩⟩
      · -- operation 5
        replace hK := Lib.hid hK
        have hlast : b7 = false := p.out.2.2.2.2.2.1 hun
        subst hlast
        obtain ⟨Wp, hB, hgf, hWp⟩ := hB
        have hWq : W = Wp := by simpa using hWp
        clear hWp
        subst hWq
        have qQ := HQ3.out W (HX4.out W hB)
        have q1 := (HC3.out W (HX4.out W hB)).1
        have qG := HA4.out W hB
        have qR := KR.out W (HX4.out W hB)
        have qr0 := cell_of_one qR
        have qr1 := free_of_one qR
        obtain rfl := h2.out (by simp only [haf])
        obtain rfl := h3.out (by simp only [haf])
        obtain rfl := h4.out (by simp only [haf])
        subst hun
        go_simp
        refine (CMg.out _).mono ?_
        rintro e W' ⟨rfl, hb⟩
        have hkept := fun kb (hk : kb < W.heap.size) => hb.block kb hk
        exact hK.out _ _ ⟨b0, b1, b2, b3, b4, true, b6, false, b8, v26, v27, .agg S1, .agg G1, .func (.func 85) #[.int .i64 3] #[], .agg MX, v32, v7, g5, c5, rfl, (by simp only [Act.put, List.setIfInBounds_toArray, List.set_cons_zero, List.set_cons_succ]), ⟨_, hB.trans (hb.mono hB.size), Lib.hid (fun hx => OwnP.below (hgf.out hx) hb), rfl⟩, h0, h1, Lib.hid (fun _ => rfl), Lib.hid (fun _ => rfl), Lib.hid (fun _ => rfl), Lib.hid (fun _ => rfl), h6, h8, Lib.hid ⟨(fun _ => rfl), (fun _ => rfl), (fun _ => rfl), (fun _ => rfl), (fun _ => rfl), (fun hf => by cases hf), (fun _ => rfl)⟩⟩
      · -- operation 6
        replace hK := Lib.hid hK
        have hlast : b7 = false := p.out.2.2.2.2.2.2 hun
        subst hlast
        obtain ⟨Wp, hB, hgf, hWp⟩ := hB
        have hWq : W = Wp := by simpa using hWp
        clear hWp
        subst hWq
        have qQ := HQ3.out W (HX4.out W hB)
        have q1 := (HC3.out W (HX4.out W hB)).1
        have qG := HA4.out W hB
        have qR := KR.out W (HX4.out W hB)
        have qr0 := cell_of_one qR
        have qr1 := free_of_one qR
        obtain rfl := h5.out (by simp only [haf])
        subst hun
        go_simp
        refine (CT.out _).mono ?_
        rintro e W' ⟨g5n, c5n, rfl, hown, hb⟩
        have hkept := fun kb (hk : kb < W.heap.size) => hb.block kb hk
        exact hK.out _ _ ⟨b0, b1, b2, b3, b4, b5, true, false, b8, v26, v27, v28, v29, v30, .agg MX, .agg #[.slice (some ⟨g5n, 0, none⟩) pic.length c5n], v7, g5n, c5n, rfl, (by simp only [Act.put, List.setIfInBounds_toArray, List.set_cons_zero, List.set_cons_succ]), ⟨_, hB.trans (hb.mono hB.size), Lib.hid (fun _ => OwnP.mono hown (Nat.le_trans hle (HX4.out _ hB).size)), rfl⟩, h0, h1, h2, h3, h4, Lib.hid (fun _ => rfl), Lib.hid (fun _ => rfl), h8, Lib.hid ⟨(fun _ => rfl), (fun _ => rfl), (fun _ => rfl), (fun _ => rfl), (fun _ => rfl), (fun _ => rfl), (fun hf => by cases hf)⟩⟩
      · -- operation 7
        replace hK := Lib.hid hK
        subst hun
        obtain ⟨Wp, hB, hgf, hWp⟩ := hB
        have hWq : W = Wp := by simpa using hWp
        clear hWp
        subst hWq
        have qQ := HQ3.out W (HX4.out W hB)
        have q1 := (HC3.out W (HX4.out W hB)).1
        have qG := HA4.out W hB
        have qR := KR.out W (HX4.out W hB)
        have qr0 := cell_of_one qR
        have qr1 := free_of_one qR
        obtain rfl := h6.out (by simp only [haf])
        go_simp
        exact hK.out _ _ ⟨b0, b1, b2, b3, b4, b5, b6, true, b8, v26, v27, v28, v29, v30, v31, .agg #[.slice (some ⟨g5, 0, none⟩) pic.length c5], v7, g5, c5, rfl, (by simp only [Act.put, List.setIfInBounds_toArray, List.set_cons_zero, List.set_cons_succ]), ⟨_, hB, hgf, rfl⟩, h0, h1, h2, h3, h4, h5, Lib.hid (fun _ => rfl), h8, Lib.hid ⟨(fun hf => absurd (show false = true from hf.symm.trans (by simp only [haf])) (by decide)), (fun hf => absurd (show false = true from hf.symm.trans (by simp only [haf])) (by decide)), (fun hf => absurd (show false = true from hf.symm.trans (by simp only [haf])) (by decide)), (fun hf => absurd (show false = true from hf.symm.trans (by simp only [haf])) (by decide)), (fun hf => absurd (show false = true from hf.symm.trans (by simp only [haf])) (by decide)), (fun hf => absurd (show false = true from hf.symm.trans (by simp only [haf])) (by decide)), (fun hf => absurd (show false = true from hf.symm.trans (by simp only [haf])) (by decide))⟩⟩
      · -- operation 8
        replace hK := Lib.hid hK
        subst hun
        go_simp
        exact hK.out _ _ ⟨b0, b1, b2, b3, b4, b5, b6, b7, true, v26, v27, v28, v29, v30, v31, v32, .bool true, g5, c5, rfl, (by simp only [Act.put, List.setIfInBounds_toArray, List.set_cons_zero, List.set_cons_succ]), hB, h0, h1, h2, h3, h4, h5, h6, Lib.hid (fun _ => rfl), p⟩
    intro L A W hI hr
    obtain ⟨b0, b1, b2, b3, b4, b5, b6, b7, b8, v26, v27, v28, v29, v30, v31, v32, v7, g5, c5, rfl, rfl, hB, h0, h1, h2, h3, h4, h5, h6, h8, p⟩ := hI
    have d0 := ready_done hr 0 _ rfl (by simp [Region.binds])
    have d1 := ready_done hr 1 _ rfl (by simp [Region.binds])
    have d3 := ready_done hr 3 _ rfl (by simp [Region.binds])
    have d4 := ready_done hr 4 _ rfl (by simp [Region.binds])
    simp at d0 d1 d3 d4
    subst d0 d1 d3 d4
    have d2 := ready_done hr 2 _ rfl (by simp [Region.binds])
    simp at d2
    subst d2
    have d5 := ready_done hr 5 _ rfl (by simp [Region.binds])
    simp at d5
    subst d5
    have d6 := ready_done hr 6 _ rfl (by simp [Region.binds])
    simp at d6
    subst d6
    have d7 := ready_done hr 7 _ rfl (by simp [Region.binds])
    simp at d7
    subst d7
    have d8 := ready_done hr 8 _ rfl (by simp [Region.binds])
    simp at d8
    subst d8
    obtain rfl := h0.out rfl
    obtain rfl := h1.out rfl
    obtain rfl := h2.out rfl
    obtain rfl := h3.out rfl
    obtain rfl := h4.out rfl
    obtain rfl := h5.out rfl
    obtain rfl := h6.out rfl
    obtain rfl := h8.out rfl
    obtain ⟨Wp, hB, hgf, hWp⟩ := hB
    have hgf := hgf.out rfl
    have hWq : W = Wp.setCell ⟨w.heap.size + 1 + 1 + 1, 0, none⟩ (.slice (some ⟨g5, 0, none⟩) pic.length c5) := by simpa using hWp
    clear hWp
    subst hWq
    simp only [Act.put, List.setIfInBounds_toArray, List.set_cons_zero, List.set_cons_succ]
    clear hr h0 h1 h2 h3 h4 h5 h6 h8 p
    have P5 := KR.out Wp (HX4.out Wp hB)
    have B5 := Lib.hid (B3.out.trans ((HX4.out Wp hB).mono B3.out.size))
    have O5 := Lib.hid (own_set (u := .slice (some ⟨g5, 0, none⟩) pic.length c5) hgf P5 (by decide))
    have P6 := Lib.hid P5
    clear hgf hB P5
    go_wp2
    refine bodyPost_ret (v := .tuple #[.agg #[.slice (some ⟨g5, 0, none⟩) pic.length c5], .bool true]) (by simp [results, Tryd.results24, go_sem, cell_of_one (one_setCell P6.out)]) rfl ⟨_, _, _, rfl, O5.out, B5.out.setCell (by show w.heap.size ≤ w.heap.size + 1 + 1 + 1; omega) _⟩
end Go.Proofs.YtabkkpifkkgpeaaDoor
