/- Contracts of single functions, and plain lemmas, on which the exact laws of this seat rest; each holds under the conditions that it states. -/
import Derived.Test.YtenbhnfajjknkaaDoorF4
import Derived.Test.YtenbhnfajjknkaaDoorF5
import Derived.Test.YtenbhnfajjknkaaDoorJa
import Derived.Test.YtenbhnfajjknkaaDoorL4
import Derived.Test.YtenbhnfajjknkaaDoorCc
namespace Go.Proofs.YtenbhnfajjknkaaDoor
set_option linter.unusedVariables false
set_option linter.unusedSimpArgs false
open Go.RowKit
attribute [local go_sem] Oper.semAt_some

def SpOk (m : Nat → Nat) (e8 : Bool) (xs : List (Int × Int)) (r : Nat → Nat) : Prop := PlW r ∧ ∀ X Y, plF r X Y = true ↔ Reach (plF m) (stepL e8) xs (X, Y)
theorem pl_pic {ss : List ByteArray} (V : VP ss) : plF (plOf (wordsOf ss) ss.length) = pixI ss := funext fun X => funext fun Y => plOf_pix V X Y

set_option maxHeartbeats 4000000 in
set_option maxRecDepth 100000 in
theorem impl_Rec (u v : Value) (ss tt : List ByteArray) (e8 : Bool) (w : World) (hN : ss.length ≤ maxLen) (hz : ∀ s ∈ ss, s.size ≤ maxLen) (hu : Sl w u ss) (hN2 : tt.length ≤ maxLen) (hz2 : ∀ s ∈ tt, s.size ≤ maxLen) (hv : Sl w v tt) (he : ErrLen w) :
    Calls Tryd.prog 36 #[.agg #[u], .agg #[v], .bool e8] w (SaysPic (rcP ss tt e8) (likeB ss tt) w) := by
  obtain ⟨W0, hW0⟩ : ∃ W0, ((w.alloc (.cells #[u] 30)).alloc (.cells #[v] 30)).alloc (.cells #[.slice none 0 0] 30) = W0 := ⟨_, rfl⟩
  have hs0 : W0.heap.size = w.heap.size + 1 + 1 + 1 := by rw [← hW0]; simp
  have hb0 : Below w.heap.size w W0 := by rw [← hW0]; exact Joins.below_alloc3 _ _ _ _
  have p0 : W0.heap[w.heap.size]? = some (.cells #[u] 30 (0, 0)) := by
    rw [← hW0, Below.heap_alloc _ _ _ (by first | (simp; done) | (simp; omega)), Below.heap_alloc _ _ _ (by first | (simp; done) | (simp; omega))]; exact heap_alloc_last w _
  have p1 : W0.heap[w.heap.size + 1]? = some (.cells #[v] 30 (0, 0)) := by
    rw [← hW0, Below.heap_alloc _ _ _ (by first | (simp; done) | (simp; omega))]
    exact heap_alloc2_new _ _ _
  have p2 : W0.heap[w.heap.size + 1 + 1]? = some (.cells #[.slice none 0 0] 30 (0, 0)) := by
    rw [← hW0]
    have := heap_alloc_last ((w.alloc (.cells #[u] 30)).alloc (.cells #[v] 30)) (.cells #[.slice none 0 0] 30)
    simpa only [World.size_alloc] using this
  have HW := Lib.hid hW0
  have HB0 := Lib.hid hb0
  have HS0 := Lib.hid hs0
  have KR0 : Hid (∀ W, Below W0.heap.size W0 W → W.heap[w.heap.size + 1 + 1]? = some (.cells #[.slice none 0 0] 30 (0, 0))) := fun W hb => (hb.block _ (by omega)).trans p2
  have cu : W0.cell? ⟨w.heap.size, 0, none⟩ = some u := cell_of_one p0
  have cv : W0.cell? ⟨w.heap.size + 1, 0, none⟩ = some v := cell_of_one p1
  cases hlk : likeB ss tt with
  | false =>
    have C := Lib.hid (matricesOf_no u v ss tt W0 hN hz (hu.below hb0) hN2 hz2 (hv.below hb0) (he.below hb0) hlk)
    have e1 : Hid (rcP ss tt e8 = []) := rcP_no hlk
    unfold NoMats at C
    rw [e1.out]
    clear hlk e1 hu hN hz hv hN2 hz2 p0 p1 p2 hW0 hb0 hs0 he
    go_enter Tryd.func36, Tryd.ntmps36
    go_wp2_with (rw [HW.out]; fail)
    rw [HW.out]
    go_wp2_with fail
    refine C.out.mono ?_
    rintro e w1 ⟨rfl, hb1⟩
    have B1 : Hid (Below w.heap.size w w1) := HB0.out.trans (hb1.mono HB0.out.size)
    have P1 := Lib.hid (KR0.out w1 hb1)
    have hl1 : w.heap.size + 1 + 1 < w1.heap.size := (Array.getElem?_eq_some_iff.1 P1.out).1
    have Q1 := Lib.hid (((Below.heap_alloc (w1.alloc (.cells zeros 99)) (.cells zeros 99) _ (by simp; omega)).trans (Below.heap_alloc w1 (.cells zeros 99) _ hl1)).trans P1.out)
    have hfr : ((w1.alloc (.cells zeros 99)).alloc (.cells zeros 99)).frozen? ⟨w.heap.size + 1 + 1, 0, none⟩ = false := free_of_one Q1.out
    have hc2 : ((w1.alloc (.cells zeros 99)).alloc (.cells zeros 99)).cell? ⟨w.heap.size + 1 + 1, 0, none⟩ = some (.slice none 0 0) := cell_of_one Q1.out
    have HX := Lib.hid (And.intro (cell_of_one (one_setCell (u := .slice none 0 0) Q1.out)) ((B1.out.trans ((Joins.below_alloc2 w1 (.cells zeros 99) (.cells zeros 99)).mono B1.out.size)).setCell (p := ⟨w.heap.size + 1 + 1, 0, none⟩) (by show w.heap.size ≤ w.heap.size + 1 + 1; omega) (.slice none 0 0)))
    clear hb1 cu cv
    go_wp2_with (refine wpList_store_under w1 (.cells zeros 99) rfl 99 _ _ rfl zeros rfl rfl 99 zeros infoM rfl (mcells_one _ _ _) ?_; refine Hid.out ?_)
    refine Lib.hid ?_
    go_wp2_with (refine wpList_store_new2 w1 (.cells zeros 99) rfl 99 _ _ rfl zeros rfl rfl 99 zeros infoM rfl (mcells_one _ _ _) ?_; refine Hid.out ?_)
    refine Lib.hid ?_
    go_wp2
    all_goals refine bodyPost_ret (v := .tuple #[.agg #[.slice none 0 0], .bool false]) (by simp [results, Tryd.results36, go_sem, HX.out.1]) rfl ⟨_, _, _, rfl, World.ownsRow_nil _ _ _ _, HX.out.2⟩
  | true =>
    obtain ⟨v1, v2, e1, e2⟩ := like_parts hlk
    have V1 := vp_of v1
    have V2 := vp_of v2
    have C := Lib.hid (matricesOf_yes u v ss tt W0 hN hz (hu.below hb0) hN2 hz2 (hv.below hb0) (he.below hb0) hlk)
    have eP : Hid (rcP ss tt e8 = mkPic (row0 tt).size tt.length (rcF ss tt e8)) := rcP_yes hlk
    have m1 := matC_yes v1
    have m2 := matC_yes v2
    rw [m1, m2] at C
    have CP1 : Hid (∀ W, Calls Tryd.prog 75 #[.agg (mat (row0 ss).size ss.length (wordsOf ss))] W fun e w' => e = .returned (.agg (pl (row0 tt).size tt.length (plOf (wordsOf ss) ss.length))) ∧ Below W.heap.size W w') := fun W => by
      have := planeOf_any (row0 ss).size ss.length (wordsOf ss) W V1.w16 V1.n16 (words_small V1)
      rwa [show pl (row0 ss).size ss.length (plOf (wordsOf ss) ss.length) = pl (row0 tt).size tt.length (plOf (wordsOf ss) ss.length) from by rw [e1, e2]] at this
    have CP2 : Hid (∀ W, Calls Tryd.prog 75 #[.agg (mat (row0 tt).size tt.length (wordsOf tt))] W fun e w' => e = .returned (.agg (pl (row0 tt).size tt.length (plOf (wordsOf tt) tt.length))) ∧ Below W.heap.size W w') := fun W => planeOf_any _ _ _ W V2.w16 V2.n16 (words_small V2)
    have CSp : Hid (∀ W, Calls Tryd.prog 76 #[.agg (pl (row0 tt).size tt.length (plOf (wordsOf ss) ss.length)), .agg (pl (row0 tt).size tt.length (plOf (wordsOf tt) tt.length)), .bool e8] W fun e w' => ∃ r, SpOk (plOf (wordsOf tt) tt.length) e8 (spW ss) r ∧ e = .returned (.agg (pl (row0 tt).size tt.length r)) ∧ Below W.heap.size W w') := fun W =>
      (spread_any _ _ _ _ e8 (spW ss) W V2.w16 V2.n16 (plOf_plw _ _ (words_small V1)) (plOf_plw _ _ (words_small V2)) (fun q _ => by rw [spW_mem V1, pl_pic V1])).mono fun e w' ⟨r, h1, h2, h3, h4⟩ => ⟨r, ⟨h1, h2⟩, h3, h4⟩
    have CT : Hid (∀ r, SpOk (plOf (wordsOf tt) tt.length) e8 (spW ss) r → ∀ W, Calls Tryd.prog 65 #[.agg (pl (row0 tt).size tt.length r)] W (TookPic W (mkPic (row0 tt).size tt.length (rcF ss tt e8)))) := fun r hr W => by
      have h16 := V2.w16
      have h26 := V2.n16
      rw [show mkPic (row0 tt).size tt.length (rcF ss tt e8) = mkPic (row0 tt).size tt.length (plX r) from mkPic_congr fun y hy x hx => by
        have h := hr.2 (x : Int) (y : Int)
        rw [pl_pic V2, ← plX_plF r x y (by omega) (by omega)] at h
        exact (rchF_eq h).symm]
      exact planePic_any _ _ _ W ⟨V2.w1, V2.w16⟩ ⟨V2.n1, V2.n16⟩ hr.1
    rw [eP.out]
    obtain ⟨pic, hpic⟩ : ∃ p, mkPic (row0 tt).size tt.length (rcF ss tt e8) = p := ⟨_, rfl⟩
    rw [hpic] at CT ⊢
    unfold TookPic at CT
    obtain ⟨m, hm⟩ : ∃ m, plOf (wordsOf tt) tt.length = m := ⟨_, rfl⟩
    obtain ⟨xs, hxs⟩ : ∃ x, spW ss = x := ⟨_, rfl⟩
    rw [hm, hxs] at CT CSp
    obtain ⟨P1, hP1⟩ : ∃ P, pl (row0 tt).size tt.length (plOf (wordsOf ss) ss.length) = P := ⟨_, rfl⟩
    obtain ⟨P2, hP2⟩ : ∃ P, pl (row0 tt).size tt.length m = P := ⟨_, rfl⟩
    rw [hm] at CP2
    rw [hP1] at CP1 CSp
    rw [hP2] at CP2 CSp
    obtain ⟨M1, hM1⟩ : ∃ M, mat (row0 ss).size ss.length (wordsOf ss) = M := ⟨_, rfl⟩
    obtain ⟨M2, hM2⟩ : ∃ M, mat (row0 tt).size tt.length (wordsOf tt) = M := ⟨_, rfl⟩
    rw [hM1] at C CP1
    rw [hM2] at C CP2
    have HI1 : Hid ((Tryd.prog.info? 99).map (·.size) = some M1.size) := by show _ = _; rw [← hM1]; exact infoM
    have HI2 : Hid ((Tryd.prog.info? 99).map (·.size) = some M2.size) := by show _ = _; rw [← hM2]; exact infoM
    have HZ1 : Hid (zeros.size = M1.size) := by show _ = _; rw [← hM1]; rfl
    have HZ2 : Hid (zeros.size = M2.size) := by show _ = _; rw [← hM2]; rfl
    have HO1 : Hid (M1.all (·.oneCell') = true) := by show _ = _; rw [← hM1]; exact mcells_one _ _ _
    have HO2 : Hid (M2.all (·.oneCell') = true) := by show _ = _; rw [← hM2]; exact mcells_one _ _ _
    obtain ⟨a, ha⟩ : ∃ a, (row0 tt).size = a := ⟨_, rfl⟩
    obtain ⟨b, hbb⟩ : ∃ b, tt.length = b := ⟨_, rfl⟩
    rw [ha, hbb] at CT CSp
    clear hlk eP hu hN hz hv hN2 hz2 p0 p1 p2 hW0 hb0 hs0 he v1 v2 e1 e2 V1 V2 m1 m2 hpic hm hxs hP1 hP2 hM1 hM2 ha hbb
    go_enter Tryd.func36, Tryd.ntmps36
    go_wp2_with (rw [HW.out]; fail)
    rw [HW.out]
    go_wp2_with fail
    refine C.out.mono ?_
    rintro e w1 ⟨rfl, hb1⟩
    have hm1 : ((w1.alloc (.cells M1 99)).alloc (.cells M2 99)).heap[w1.heap.size]? = some (.cells M1 99 (0, 0)) := by
      rw [Below.heap_alloc _ _ _ (by simp)]; exact heap_alloc_last w1 _
    have hm2 : ((w1.alloc (.cells M1 99)).alloc (.cells M2 99)).heap[w1.heap.size + 1]? = some (.cells M2 99 (0, 0)) := heap_alloc2_new _ _ _
    have hb3 : Below W0.heap.size W0 ((w1.alloc (.cells M1 99)).alloc (.cells M2 99)) := hb1.trans ((Joins.below_alloc2 w1 _ _).mono hb1.size)
    obtain ⟨W3, hW3⟩ : ∃ W3, (w1.alloc (.cells M1 99)).alloc (.cells M2 99) = W3 := ⟨_, rfl⟩
    obtain ⟨mb, hmb⟩ : ∃ mb, w1.heap.size = mb := ⟨_, rfl⟩
    rw [hW3] at hm1 hm2 hb3
    rw [hmb] at hm1 hm2
    have HW3 : Hid ((w1.alloc (.cells M1 99)).alloc (.cells M2 99) = W3) := hW3
    have HMb := Lib.hid hmb
    have HQ3 : Hid (∀ W, Below W3.heap.size W3 W → W.heap[mb]? = some (.cells M1 99 (0, 0)) ∧ W.heap[mb + 1]? = some (.cells M2 99 (0, 0))) := fun W hb => ⟨(hb.block _ (Array.getElem?_eq_some_iff.1 hm1).1).trans hm1, (hb.block _ (Array.getElem?_eq_some_iff.1 hm2).1).trans hm2⟩
    have KR : Hid (∀ W, Below W3.heap.size W3 W → W.heap[w.heap.size + 1 + 1]? = some (.cells #[.slice none 0 0] 30 (0, 0))) := fun W hb => KR0.out W (hb3.trans (hb.mono hb3.size))
    have B3 := Lib.hid (HB0.out.trans (hb3.mono HB0.out.size))
    have hle := B3.out.size
    clear hb1 hm1 hm2 hb3 hW3 hmb cu cv
    go_wp2_with (refine wpList_store_under w1 (.cells zeros 99) rfl 99 _ _ rfl M1 rfl rfl 99 zeros HI1.out HZ1.out HO1.out ?_; refine Hid.out ?_)
    refine Lib.hid ?_
    go_wp2_with (refine wpList_store_new2 w1 (.cells M1 99) rfl 99 _ _ rfl M2 rfl rfl 99 zeros HI2.out HZ2.out HO2.out ?_; refine Hid.out ?_)
    refine Lib.hid ?_
    rw [HW3.out, HMb.out]
    go_upto_region 4 with fail
    refine wp_region_inv_at (by kernel_rfl) (fun A0 L A W => ∃ (b0 b1 b2 b3 b4 b5 b6 b7 b8 : Bool) (v21 v22 v23 v24 v25 v26 v27 v7 : Value) (g5 c5 : Nat), L = #[b0, b1, b2, b3, b4, b5, b6, b7, b8] ∧ A = ((((((((A0.put (some 21) v21).put (some 22) v22).put (some 23) v23).put (some 24) v24).put (some 25) v25).put (some 26) v26).put (some 27) v27).put (some 7) v7) ∧ (∃ Wp, Below W3.heap.size W3 Wp ∧ Hid (b6 = true → OwnP Wp w.heap.size (.slice (some ⟨g5, 0, none⟩) pic.length c5) pic) ∧ W = (if b7 = true then Wp.setCell ⟨w.heap.size + 1 + 1, 0, none⟩ (.slice (some ⟨g5, 0, none⟩) pic.length c5) else Wp)) ∧ Hid (b0 = true → v21 = .agg M1) ∧ Hid (b1 = true → v22 = .agg P1) ∧ Hid (b2 = true → v23 = .agg M2) ∧ Hid (b3 = true → v24 = .agg P2) ∧ Hid (b4 = true → v25 = .bool e8) ∧ Hid (b5 = true → b6 = false → ∃ r, v26 = .agg (pl a b r) ∧ SpOk m e8 xs r) ∧ Hid (b6 = true → v27 = .agg #[.slice (some ⟨g5, 0, none⟩) pic.length c5]) ∧ Hid (b8 = true → v7 = .bool true) ∧ Hid ((b0 = false → b7 = false) ∧ (b1 = false → b7 = false) ∧ (b2 = false → b7 = false) ∧ (b3 = false → b7 = false) ∧ (b4 = false → b7 = false) ∧ (b5 = false → b7 = false) ∧ (b6 = false → b7 = false))) ?_ ?_ ?_
    · intro A0
      refine ⟨false, false, false, false, false, false, false, false, false, A0.tmps.getD 21 undef, A0.tmps.getD 22 undef, A0.tmps.getD 23 undef, A0.tmps.getD 24 undef, A0.tmps.getD 25 undef, A0.tmps.getD 26 undef, A0.tmps.getD 27 undef, A0.tmps.getD 7 undef, 0, 0, rfl, (by simp only [put_self]), ⟨_, (Below.refl _ _).drew, Lib.hid (fun hf => by cases hf), rfl⟩, Lib.hid (fun hf => by cases hf), Lib.hid (fun hf => by cases hf), Lib.hid (fun hf => by cases hf), Lib.hid (fun hf => by cases hf), Lib.hid (fun hf => by cases hf), Lib.hid (fun hf => by cases hf), Lib.hid (fun hf => by cases hf), Lib.hid (fun hf => by cases hf), Lib.hid ⟨fun _ => rfl, fun _ => rfl, fun _ => rfl, fun _ => rfl, fun _ => rfl, fun _ => rfl, fun _ => rfl⟩⟩
    · intro L A W hI i hi o ho K' hK
      have hlt := (ready_left hi).1
      have hun := (ready_left hi).2
      have haf := ready_after hi ho
      clear hi
      obtain ⟨b0, b1, b2, b3, b4, b5, b6, b7, b8, v21, v22, v23, v24, v25, v26, v27, v7, g5, c5, rfl, rfl, hB, h0, h1, h2, h3, h4, h5, h6, h8, p⟩ := hI
      have hc : i = 0 ∨ i = 1 ∨ i = 2 ∨ i = 3 ∨ i = 4 ∨ i = 5 ∨ i = 6 ∨ i = 7 ∨ i = 8 := by
        simp at hlt
        omega
      rcases hc with rfl | rfl | rfl | rfl | rfl | rfl | rfl | rfl | rfl
      all_goals (obtain rfl := Option.some.inj ho; clear ho; simp [Region.binds] at haf hun; (try simp only [List.getElem_toArray, List.getElem_cons_zero, List.getElem_cons_succ]); simp only [Act.put, List.setIfInBounds_toArray, List.set_cons_zero, List.set_cons_succ])
      · -- operation 0
        replace hK := Lib.hid hK
        have hlast : b7 = false := p.out.1 hun
        subst hlast
        obtain ⟨Wp, hB, hgf, hWp⟩ := hB
        have hWq : W = Wp := by simpa using hWp
        clear hWp
        subst hWq
        have q1 := (HQ3.out W hB).1
        have q2 := (HQ3.out W hB).2
        have qR := KR.out W hB
        have qr0 := cell_of_one qR
        have qr1 := free_of_one qR
        subst hun
        rw [if_pos (by simp [Region.wanted])]
        refine wp_load_row 99 _ rfl mb rfl 99 M1 (0, 0) _ q1 Tryd.underlying99 rfl HI1.out ?_
        exact hK.out _ _ ⟨true, b1, b2, b3, b4, b5, b6, false, b8, .agg M1, v22, v23, v24, v25, v26, v27, v7, g5, c5, rfl, (by simp only [Act.put, List.setIfInBounds_toArray, List.set_cons_zero, List.set_cons_succ]), ⟨_, hB, hgf, rfl⟩, Lib.hid (fun _ => rfl), h1, h2, h3, h4, h5, h6, h8, Lib.hid ⟨(fun hf => by cases hf), (fun _ => rfl), (fun _ => rfl), (fun _ => rfl), (fun _ => rfl), (fun _ => rfl), (fun _ => rfl)⟩⟩
      · -- operation 1
        replace hK := Lib.hid hK
        have hlast : b7 = false := p.out.2.1 hun
        subst hlast
        obtain ⟨Wp, hB, hgf, hWp⟩ := hB
        have hWq : W = Wp := by simpa using hWp
        clear hWp
        subst hWq
        have q1 := (HQ3.out W hB).1
        have q2 := (HQ3.out W hB).2
        have qR := KR.out W hB
        have qr0 := cell_of_one qR
        have qr1 := free_of_one qR
        obtain rfl := h0.out (by simp only [haf])
        subst hun
        go_simp
        refine (CP1.out _).mono ?_
        rintro e W' ⟨rfl, hb⟩
        have hkept := fun kb (hk : kb < W.heap.size) => hb.block kb hk
        exact hK.out _ _ ⟨b0, true, b2, b3, b4, b5, b6, false, b8, .agg M1, .agg P1, v23, v24, v25, v26, v27, v7, g5, c5, rfl, (by simp only [Act.put, List.setIfInBounds_toArray, List.set_cons_zero, List.set_cons_succ]), ⟨_, hB.trans (hb.mono hB.size), Lib.hid (fun hx => OwnP.below (hgf.out hx) hb), rfl⟩, Lib.hid (fun _ => rfl), Lib.hid (fun _ => rfl), h2, h3, h4, Lib.hid (fun hx hu => by obtain ⟨r, e1, fx⟩ := h5.out hx hu; exact ⟨r, e1, fx⟩), h6, h8, Lib.hid ⟨(fun _ => rfl), (fun hf => by cases hf), (fun _ => rfl), (fun _ => rfl), (fun _ => rfl), (fun _ => rfl), (fun _ => rfl)⟩⟩
      · -- operation 2
        replace hK := Lib.hid hK
        have hlast : b7 = false := p.out.2.2.1 hun
        subst hlast
        obtain ⟨Wp, hB, hgf, hWp⟩ := hB
        have hWq : W = Wp := by simpa using hWp
        clear hWp
        subst hWq
        have q1 := (HQ3.out W hB).1
        have q2 := (HQ3.out W hB).2
        have qR := KR.out W hB
        have qr0 := cell_of_one qR
        have qr1 := free_of_one qR
        subst hun
        rw [if_pos (by simp [Region.wanted])]
        refine wp_load_row 99 _ rfl (mb + 1) rfl 99 M2 (0, 0) _ q2 Tryd.underlying99 rfl HI2.out ?_
        exact hK.out _ _ ⟨b0, b1, true, b3, b4, b5, b6, false, b8, v21, v22, .agg M2, v24, v25, v26, v27, v7, g5, c5, rfl, (by simp only [Act.put, List.setIfInBounds_toArray, List.set_cons_zero, List.set_cons_succ]), ⟨_, hB, hgf, rfl⟩, h0, h1, Lib.hid (fun _ => rfl), h3, h4, h5, h6, h8, Lib.hid ⟨(fun _ => rfl), (fun _ => rfl), (fun hf => by cases hf), (fun _ => rfl), (fun _ => rfl), (fun _ => rfl), (fun _ => rfl)⟩⟩
      · -- operation 3
        replace hK := Lib.hid hK
        have hlast : b7 = false := p.out.2.2.2.1 hun
        subst hlast
        obtain ⟨Wp, hB, hgf, hWp⟩ := hB
        have hWq : W = Wp := by simpa using hWp
        clear hWp
        subst hWq
        have q1 := (HQ3.out W hB).1
        have q2 := (HQ3.out W hB).2
        have qR := KR.out W hB
        have qr0 := cell_of_one qR
        have qr1 := free_of_one qR
        obtain rfl := h2.out (by simp only [haf])
        subst hun
        go_simp
        refine (CP2.out _).mono ?_
        rintro e W' ⟨rfl, hb⟩
        have hkept := fun kb (hk : kb < W.heap.size) => hb.block kb hk
        exact hK.out _ _ ⟨b0, b1, b2, true, b4, b5, b6, false, b8, v21, v22, .agg M2, .agg P2, v25, v26, v27, v7, g5, c5, rfl, (by simp only [Act.put, List.setIfInBounds_toArray, List.set_cons_zero, List.set_cons_succ]), ⟨_, hB.trans (hb.mono hB.size), Lib.hid (fun hx => OwnP.below (hgf.out hx) hb), rfl⟩, h0, h1, Lib.hid (fun _ => rfl), Lib.hid (fun _ => rfl), h4, Lib.hid (fun hx hu => by obtain ⟨r, e1, fx⟩ := h5.out hx hu; exact ⟨r, e1, fx⟩), h6, h8, Lib.hid ⟨(fun _ => rfl), (fun _ => rfl), (fun _ => rfl), (fun hf => by cases hf), (fun _ => rfl), (fun _ => rfl), (fun _ => rfl)⟩⟩
      · -- operation 4
        replace hK := Lib.hid hK
        have hlast : b7 = false := p.out.2.2.2.2.1 hun
        subst hlast
        obtain ⟨Wp, hB, hgf, hWp⟩ := hB
        have hWq : W = Wp := by simpa using hWp
        clear hWp
        subst hWq
        have q1 := (HQ3.out W hB).1
        have q2 := (HQ3.out W hB).2
        have qR := KR.out W hB
        have qr0 := cell_of_one qR
        have qr1 := free_of_one qR
        subst hun
        go_simp
        exact hK.out _ _ ⟨b0, b1, b2, b3, true, b5, b6, false, b8, v21, v22, v23, v24, .bool e8, v26, v27, v7, g5, c5, rfl, (by simp only [Act.put, List.setIfInBounds_toArray, List.set_cons_zero, List.set_cons_succ]), ⟨_, hB, hgf, rfl⟩, h0, h1, h2, h3, Lib.hid (fun _ => rfl), h5, h6, h8, Lib.hid ⟨(fun _ => rfl), (fun _ => rfl), (fun _ => rfl), (fun _ => rfl), (fun hf => by cases hf), (fun _ => rfl), (fun _ => rfl)⟩⟩
      · -- operation 5
        replace hK := Lib.hid hK
        have hlast : b7 = false := p.out.2.2.2.2.2.1 hun
        subst hlast
        obtain ⟨Wp, hB, hgf, hWp⟩ := hB
        have hWq : W = Wp := by simpa using hWp
        clear hWp
        subst hWq
        have q1 := (HQ3.out W hB).1
        have q2 := (HQ3.out W hB).2
        have qR := KR.out W hB
        have qr0 := cell_of_one qR
        have qr1 := free_of_one qR
        obtain rfl := h1.out (by simp only [haf])
        obtain rfl := h3.out (by simp only [haf])
        obtain rfl := h4.out (by simp only [haf])
        subst hun
        go_simp
        refine (CSp.out _).mono ?_
        rintro e W' ⟨r, hf, rfl, hb⟩
        have hkept := fun kb (hk : kb < W.heap.size) => hb.block kb hk
        exact hK.out _ _ ⟨b0, b1, b2, b3, b4, true, b6, false, b8, v21, .agg P1, v23, .agg P2, .bool e8, .agg (pl a b r), v27, v7, g5, c5, rfl, (by simp only [Act.put, List.setIfInBounds_toArray, List.set_cons_zero, List.set_cons_succ]), ⟨_, hB.trans (hb.mono hB.size), Lib.hid (fun hx => OwnP.below (hgf.out hx) hb), rfl⟩, h0, Lib.hid (fun _ => rfl), h2, Lib.hid (fun _ => rfl), Lib.hid (fun _ => rfl), Lib.hid (fun _ _ => ⟨r, rfl, hf⟩), h6, h8, Lib.hid ⟨(fun _ => rfl), (fun _ => rfl), (fun _ => rfl), (fun _ => rfl), (fun _ => rfl), (fun hf => by cases hf), (fun _ => rfl)⟩⟩
      · -- operation 6
        replace hK := Lib.hid hK
        have hlast : b7 = false := p.out.2.2.2.2.2.2 hun
        subst hlast
        obtain ⟨Wp, hB, hgf, hWp⟩ := hB
        have hWq : W = Wp := by simpa using hWp
        clear hWp
        subst hWq
        have q1 := (HQ3.out W hB).1
        have q2 := (HQ3.out W hB).2
        have qR := KR.out W hB
        have qr0 := cell_of_one qR
        have qr1 := free_of_one qR
        obtain ⟨r, rfl, hf2⟩ := h5.out (by simp only [haf]) (by first | exact hun | simp only [haf])
        subst hun
        go_simp
        refine (CT.out _ hf2 _).mono ?_
        rintro e W' ⟨g5n, c5n, rfl, hown, hb⟩
        have hkept := fun kb (hk : kb < W.heap.size) => hb.block kb hk
        exact hK.out _ _ ⟨b0, b1, b2, b3, b4, b5, true, false, b8, v21, v22, v23, v24, v25, .agg (pl a b r), .agg #[.slice (some ⟨g5n, 0, none⟩) pic.length c5n], v7, g5n, c5n, rfl, (by simp only [Act.put, List.setIfInBounds_toArray, List.set_cons_zero, List.set_cons_succ]), ⟨_, hB.trans (hb.mono hB.size), Lib.hid (fun _ => OwnP.mono hown (Nat.le_trans hle hB.size)), rfl⟩, h0, h1, h2, h3, h4, Lib.hid (fun _ hu => by cases hu), Lib.hid (fun _ => rfl), h8, Lib.hid ⟨(fun _ => rfl), (fun _ => rfl), (fun _ => rfl), (fun _ => rfl), (fun _ => rfl), (fun _ => rfl), (fun hf => by cases hf)⟩⟩
      · -- operation 7
        replace hK := Lib.hid hK
        subst hun
        obtain ⟨Wp, hB, hgf, hWp⟩ := hB
        have hWq : W = Wp := by simpa using hWp
        clear hWp
        subst hWq
        have q1 := (HQ3.out W hB).1
        have q2 := (HQ3.out W hB).2
        have qR := KR.out W hB
        have qr0 := cell_of_one qR
        have qr1 := free_of_one qR
        obtain rfl := h6.out (by simp only [haf])
        go_simp
        exact hK.out _ _ ⟨b0, b1, b2, b3, b4, b5, b6, true, b8, v21, v22, v23, v24, v25, v26, .agg #[.slice (some ⟨g5, 0, none⟩) pic.length c5], v7, g5, c5, rfl, (by simp only [Act.put, List.setIfInBounds_toArray, List.set_cons_zero, List.set_cons_succ]), ⟨_, hB, hgf, rfl⟩, h0, h1, h2, h3, h4, Lib.hid (fun _ hu => absurd (show false = true from hu.symm.trans (by simp only [haf])) (by decide)), Lib.hid (fun _ => rfl), h8, Lib.hid ⟨(fun hf => absurd (show false = true from hf.symm.trans (by simp only [haf])) (by decide)), (fun hf => absurd (show false = true from hf.symm.trans (by simp only [haf])) (by decide)), (fun hf => absurd (show false = true from hf.symm.trans (by simp only [haf])) (by decide)), (fun hf => absurd (show false = true from hf.symm.trans (by simp only [haf])) (by decide)), (fun hf => absurd (show false = true from hf.symm.trans (by simp only [haf])) (by decide)), (fun hf => absurd (show false = true from hf.symm.trans (by simp only [haf])) (by decide)), (fun hf => absurd (show false = true from hf.symm.trans (by simp only [haf])) (by decide))⟩⟩
      · -- operation 8
        replace hK := Lib.hid hK
        subst hun
        go_simp
        exact hK.out _ _ ⟨b0, b1, b2, b3, b4, b5, b6, b7, true, v21, v22, v23, v24, v25, v26, v27, .bool true, g5, c5, rfl, (by simp only [Act.put, List.setIfInBounds_toArray, List.set_cons_zero, List.set_cons_succ]), hB, h0, h1, h2, h3, h4, h5, h6, Lib.hid (fun _ => rfl), p⟩
    intro L A W hI hr
    obtain ⟨b0, b1, b2, b3, b4, b5, b6, b7, b8, v21, v22, v23, v24, v25, v26, v27, v7, g5, c5, rfl, rfl, hB, h0, h1, h2, h3, h4, h5, h6, h8, p⟩ := hI
    have d0 := ready_done hr 0 _ rfl (by simp [Region.binds])
    have d2 := ready_done hr 2 _ rfl (by simp [Region.binds])
    have d4 := ready_done hr 4 _ rfl (by simp [Region.binds])
    simp at d0 d2 d4
    subst d0 d2 d4
    have d1 := ready_done hr 1 _ rfl (by simp [Region.binds])
    simp at d1
    subst d1
    have d3 := ready_done hr 3 _ rfl (by simp [Region.binds])
    simp at d3
    subst d3
    have d5 := ready_done hr 5 _ rfl (by simp [Region.binds])
    simp at d5
    subst d5
    have d6 := ready_done hr 6 _ rfl (by simp [Region.binds])
    simp at d6
    subst d6
    have d7 := ready_done hr 7 _ rfl (by simp [Region.binds])
    simp at d7
    subst d7
    have d8 := ready_done hr 8 _ rfl (by simp [Region.binds])
    simp at d8
    subst d8
    obtain rfl := h0.out rfl
    obtain rfl := h1.out rfl
    obtain rfl := h2.out rfl
    obtain rfl := h3.out rfl
    obtain rfl := h4.out rfl
    obtain rfl := h6.out rfl
    obtain rfl := h8.out rfl
    obtain ⟨Wp, hB, hgf, hWp⟩ := hB
    have hgf := hgf.out rfl
    have hWq : W = Wp.setCell ⟨w.heap.size + 1 + 1, 0, none⟩ (.slice (some ⟨g5, 0, none⟩) pic.length c5) := by simpa using hWp
    clear hWp
    subst hWq
    simp only [Act.put, List.setIfInBounds_toArray, List.set_cons_zero, List.set_cons_succ]
    clear hr h0 h1 h2 h3 h4 h5 h6 h8 p
    have P5 := KR.out Wp hB
    have B5 := Lib.hid (B3.out.trans (hB.mono B3.out.size))
    have O5 := Lib.hid (own_set (u := .slice (some ⟨g5, 0, none⟩) pic.length c5) hgf P5 (by decide))
    have P6 := Lib.hid P5
    clear hgf hB P5
    go_wp2
    refine bodyPost_ret (v := .tuple #[.agg #[.slice (some ⟨g5, 0, none⟩) pic.length c5], .bool true]) (by simp [results, Tryd.results36, go_sem, cell_of_one (one_setCell P6.out)]) rfl ⟨_, _, _, rfl, O5.out, B5.out.setCell (by show w.heap.size ≤ w.heap.size + 1 + 1; omega) _⟩
end Go.Proofs.YtenbhnfajjknkaaDoor
