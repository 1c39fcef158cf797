/- Contracts of single functions, and plain lemmas, on which the exact laws of this seat rest; each holds under the conditions that it states. -/
import Derived.Test.YtenbhnfajjknkaaDoorE8
import Derived.Test.YtenbhnfajjknkaaDoorHA
namespace Go.Proofs.YtenbhnfajjknkaaDoor
set_option linter.unusedVariables false
set_option linter.unusedSimpArgs false
open Go.RowKit
attribute [local go_sem] Oper.semAt_some

theorem sp_exists {m : Nat → Nat} {e8 : Bool} {xs : List (Int × Int)} (hm : PlW m) (n : Nat) : ∀ (r : Nat → Nat), SpI m e8 xs r → 576 ≤ cntG r + n → ∃ r', SpOk m e8 xs r' := by
  induction n with
  | zero =>
    intro r h hn
    by_cases hf : ∀ j, j < 24 → nxG r m e8 j = r j
    · exact ⟨r, h.plw, h.done hm (fun X Y hx => by rw [plF_congr hf] at hx; exact hx)⟩
    · have h1 := h.more hm hf
      have h2 := cntG_le (nxG r m e8)
      obtain ⟨a, ha⟩ : ∃ a, cntG r = a := ⟨_, rfl⟩
      obtain ⟨b, hb⟩ : ∃ b, cntG (nxG r m e8) = b := ⟨_, rfl⟩
      rw [ha] at h1 hn
      rw [hb] at h1 h2
      omega
  | succ n ih =>
    intro r h hn
    by_cases hf : ∀ j, j < 24 → nxG r m e8 j = r j
    · exact ⟨r, h.plw, h.done hm (fun X Y hx => by rw [plF_congr hf] at hx; exact hx)⟩
    · have h1 := h.more hm hf
      refine ih (nxG r m e8) (h.next hm) ?_
      obtain ⟨a, ha⟩ : ∃ a, cntG r = a := ⟨_, rfl⟩
      obtain ⟨b, hb⟩ : ∃ b, cntG (nxG r m e8) = b := ⟨_, rfl⟩
      rw [ha] at h1 hn
      rw [hb] at h1 ⊢
      omega
noncomputable def spG (m : Nat → Nat) (e8 : Bool) (xs : List (Int × Int)) : Nat → Nat := Classical.epsilon (SpOk m e8 xs)
theorem spG_ok {s m : Nat → Nat} {e8 : Bool} {xs : List (Int × Int)} (hs : PlW s) (hm : PlW m) (hx : ∀ q : Int × Int, plF m q.1 q.2 = true → (q ∈ xs ↔ plF s q.1 q.2 = true)) : SpOk m e8 xs (spG m e8 xs) :=
  Classical.epsilon_spec (sp_exists hm 576 _ (SpI.start e8 hs hm hx) (Nat.le_add_left _ _))
theorem spG_eq {m : Nat → Nat} {e8 : Bool} {xs : List (Int × Int)} (a b : Nat) {r : Nat → Nat} (hr : SpOk m e8 xs r) : pl a b r = pl a b (spG m e8 xs) := by
  have h : SpOk m e8 xs (spG m e8 xs) := Classical.epsilon_spec ⟨r, hr⟩
  refine pl_congr a b (same_rows hr.1 h.1 fun i hi => ?_)
  rw [bitG_plF _ i hi, bitG_plF _ i hi, Bool.eq_iff_iff, hr.2, h.2]
/-- the mask of the white pixels -/
def wtG (ss : List ByteArray) : Nat → Nat := ivG (plOf (wordsOf ss) ss.length) 24
theorem wtG_plw {ss : List ByteArray} (V : VP ss) : PlW (wtG ss) := ivG_plw _ (plOf_plw _ _ (words_small V)) 24
theorem wtG_pix {ss : List ByteArray} (V : VP ss) (X Y : Int) : plF (wtG ss) X Y = (inPl X Y && !pixI ss X Y) := by
  cases hi : inPl X Y with
  | false => rw [plF_out _ _ _ hi]; rfl
  | true =>
    unfold wtG
    rw [iv_pix _ X Y hi, plOf_pix V, Bool.true_and]
theorem fill_seeds {ss : List ByteArray} (V : VP ss) (q : Int × Int) (h : plF (wtG ss) q.1 q.2 = true) : q ∈ outL (row0 ss).size ss.length ↔ plF (outG (row0 ss).size ss.length) q.1 q.2 = true := by
  have hi := plF_in h
  rw [outL_mem, out_pix _ _ V.w16 V.n16 _ _ hi, hi]
  simp
noncomputable def fhG (ss : List ByteArray) (e8 : Bool) : Nat → Nat := spG (wtG ss) (!e8) (outL (row0 ss).size ss.length)
theorem fhG_ok {ss : List ByteArray} (V : VP ss) (e8 : Bool) : SpOk (wtG ss) (!e8) (outL (row0 ss).size ss.length) (fhG ss e8) := spG_ok (outG_plw _ _ V.w16) (wtG_plw V) (fill_seeds V)
theorem fill_pix {ss : List ByteArray} (V : VP ss) (e8 : Bool) (y x : Nat) (hy : y < ss.length) (hx : x < (row0 ss).size) : plX (ivG (fhG ss e8) 24) y x = fhF ss e8 y x := by
  have h1 := V.w16
  have h2 := V.n16
  have hi : inPl (x : Int) (y : Int) = true := decide_eq_true (by omega)
  have hr : inR (row0 ss).size ss.length (x : Int) (y : Int) = true := (inR_iff _ _ _ _).2 (by omega)
  rw [plX_plF _ x y (by omega) (by omega), iv_pix _ _ _ hi]
  unfold fhF
  congr 1
  exact rchF_eq (((fhG_ok V e8).2 x y).trans (pl_reach V (plF (wtG ss)) (wtG_pix V) (!e8) x y hr))

set_option maxHeartbeats 4000000 in
set_option maxRecDepth 100000 in
theorem impl_Fill (u : Value) (ss : List ByteArray) (e8 : Bool) (w : World) (hN : ss.length ≤ maxLen) (hz : ∀ s ∈ ss, s.size ≤ maxLen) (hu : Sl w u ss) (he : ErrLen w) :
    Calls Tryd.prog 38 #[.agg #[u], .bool e8] w (SaysPic (fhP ss e8) (validB ss) w) := by
  obtain ⟨W0, hW0⟩ : ∃ W0, (w.alloc (.cells #[u] 30)).alloc (.cells #[.slice none 0 0] 30) = W0 := ⟨_, rfl⟩
  have hs0 : W0.heap.size = w.heap.size + 1 + 1 := by rw [← hW0]; simp
  have hb0 : Below w.heap.size w W0 := by rw [← hW0]; exact Joins.below_alloc2 _ _ _
  have p0 : W0.heap[w.heap.size]? = some (.cells #[u] 30 (0, 0)) := by
    rw [← hW0, Below.heap_alloc _ _ _ (by first | (simp; done) | (simp; omega))]; exact heap_alloc_last w _
  have p1 : W0.heap[w.heap.size + 1]? = some (.cells #[.slice none 0 0] 30 (0, 0)) := by
    rw [← hW0]
    exact heap_alloc2_new _ _ _
  have HW0 := Lib.hid hW0
  have HB0 := Lib.hid hb0
  have KR0 : Hid (∀ W, Below W0.heap.size W0 W → W.heap[w.heap.size + 1]? = some (.cells #[.slice none 0 0] 30 (0, 0))) := fun W hb => (hb.block _ (by omega)).trans p1
  have C := Lib.hid (planeWith_any0 u ss W0 hN hz (hu.below hb0) (he.below hb0))
  have HQ : Hid ((plOk0 ss).size = 26 ∧ (plOk0 ss).all (·.oneCell') = true) := by
    show _ ∧ _
    unfold plOk0; split
    · exact ⟨pl_size _ _ _, pl_one _ _ _⟩
    · exact ⟨rfl, pcells_one _ _ _⟩
  have c0 := cell_of_one p0
  cases hok : validB ss with
  | false =>
    have e1 : Hid (fhP ss e8 = []) := fhP_no hok
    obtain ⟨Q, hQ⟩ : ∃ Q, plOk0 ss = Q := ⟨_, rfl⟩
    rw [hQ] at C HQ
    have HI4 : Hid ((Tryd.prog.info? 68).map (·.size) = some Q.size) := by show _ = _; rw [HQ.out.1]; exact infoPl
    have HI5 : Hid (zerosP.size = Q.size) := by show _ = _; rw [HQ.out.1]; rfl
    have HI6 : Hid (Q.all (·.oneCell') = true) := HQ.out.2
    rw [hok] at C
    rw [e1.out]
    clear hok e1 hu hN hz p0 p1 hW0 hb0 he HQ hQ
    go_enter Tryd.func38, Tryd.ntmps38
    go_wp2_with (rw [HW0.out]; fail)
    rw [HW0.out]
    go_wp2_with fail
    refine C.out.mono ?_
    rintro e w2 ⟨rfl, hb2⟩
    have hs2 := hb2.size
    have P2 := KR0.out _ hb2
    have HP3 := Lib.hid ((((Below.refl _ _).alloc (Nat.le_refl _) (.cells Q 68)).block _ (by rw [hs0] at hs2; omega)).trans P2)
    have B3 := Lib.hid ((HB0.out.trans (hb2.mono HB0.out.size)).alloc (Nat.le_trans HB0.out.size hb2.size) (.cells Q 68))
    obtain ⟨W3, hW3⟩ : ∃ W3, w2.alloc (.cells Q 68) = W3 := ⟨_, rfl⟩
    rw [hW3] at HP3 B3
    have HW3 := Lib.hid hW3
    have hfr : W3.frozen? ⟨w.heap.size + 1, 0, none⟩ = false := free_of_one HP3.out
    have hc2 : W3.cell? ⟨w.heap.size + 1, 0, none⟩ = some (.slice none 0 0) := cell_of_one HP3.out
    clear hb2 P2 hW3
    go_wp2_with (refine wpList_store_new w2 rfl 68 _ _ rfl Q rfl rfl 68 zerosP HI4.out HI5.out HI6.out ?_; rw [HW3.out])
    refine bodyPost_ret (v := .tuple #[.agg #[.slice none 0 0], .bool false]) (by simp [results, Tryd.results38, go_sem, cell_of_one (one_setCell HP3.out)]) rfl ⟨_, _, _, rfl, World.ownsRow_nil _ _ _ _, B3.out.setCell (by show w.heap.size ≤ w.heap.size + 1; omega) _⟩
  | true =>
    have V := vp_of hok
    have e1 : Hid (fhP ss e8 = mkPic (row0 ss).size ss.length (fhF ss e8)) := fhP_yes hok
    have hq0 := plOk0_yes hok
    have CO : Hid (∀ W, Calls Tryd.prog 78 #[.agg (plOk0 ss)] W fun e w' => e = .returned (.agg (pl (row0 ss).size ss.length (outG (row0 ss).size ss.length))) ∧ Below W.heap.size W w') := fun W => by
      rw [hq0]
      exact outside_any _ _ _ W ⟨V.w1, V.w16⟩ ⟨V.n1, V.n16⟩
    have CI : Hid (∀ W, Calls Tryd.prog 79 #[.agg (plOk0 ss)] W fun e w' => e = .returned (.agg (pl (row0 ss).size ss.length (wtG ss))) ∧ Below W.heap.size W w') := fun W => by
      rw [hq0]
      exact inverted_any _ _ _ W (plOf_plw _ _ (words_small V))
    have CSp : Hid (∀ W, Calls Tryd.prog 76 #[.agg (pl (row0 ss).size ss.length (outG (row0 ss).size ss.length)), .agg (pl (row0 ss).size ss.length (wtG ss)), .bool (!e8)] W fun e w' => e = .returned (.agg (pl (row0 ss).size ss.length (fhG ss e8))) ∧ Below W.heap.size W w') := fun W =>
      (spread_any _ _ _ _ (!e8) (outL (row0 ss).size ss.length) W V.w16 V.n16 (outG_plw _ _ V.w16) (wtG_plw V) (fill_seeds V)).mono fun e w' ⟨r, h1, h2, h3, h4⟩ => ⟨by rw [h3, spG_eq (row0 ss).size ss.length ⟨h1, h2⟩]; rfl, h4⟩
    have CI2 : Hid (∀ W, Calls Tryd.prog 79 #[.agg (pl (row0 ss).size ss.length (fhG ss e8))] W fun e w' => e = .returned (.agg (pl (row0 ss).size ss.length (ivG (fhG ss e8) 24))) ∧ Below W.heap.size W w') := fun W => inverted_any _ _ _ W (fhG_ok V e8).1
    have CT : Hid (∀ W, Calls Tryd.prog 65 #[.agg (pl (row0 ss).size ss.length (ivG (fhG ss e8) 24))] W (TookPic W (mkPic (row0 ss).size ss.length (fhF ss e8)))) := fun W => by
      rw [show mkPic (row0 ss).size ss.length (fhF ss e8) = mkPic (row0 ss).size ss.length (plX (ivG (fhG ss e8) 24)) from mkPic_congr fun y hy x hx => (fill_pix V e8 y x hy hx).symm]
      exact planePic_any _ _ _ W ⟨V.w1, V.w16⟩ ⟨V.n1, V.n16⟩ (ivG_plw _ (fhG_ok V e8).1 24)
    rw [e1.out]
    obtain ⟨Q, hQ⟩ : ∃ Q, plOk0 ss = Q := ⟨_, rfl⟩
    rw [hQ] at C HQ CO CI
    have HI4 : Hid ((Tryd.prog.info? 68).map (·.size) = some Q.size) := by show _ = _; rw [HQ.out.1]; exact infoPl
    have HI5 : Hid (zerosP.size = Q.size) := by show _ = _; rw [HQ.out.1]; rfl
    have HI6 : Hid (Q.all (·.oneCell') = true) := HQ.out.2
    obtain ⟨RC, hRC⟩ : ∃ Q, pl (row0 ss).size ss.length (fhG ss e8) = Q := ⟨_, rfl⟩
    have HIr : Hid ((Tryd.prog.info? 68).map (·.size) = some RC.size) := by show _ = _; rw [← hRC]; exact infoPl
    have HZr : Hid (Array.size (α := Value) #[.int .i64 0, .int .i64 0, .int .u32 0, .int .u32 0, .int .u32 0, .int .u32 0, .int .u32 0, .int .u32 0, .int .u32 0, .int .u32 0, .int .u32 0, .int .u32 0, .int .u32 0, .int .u32 0, .int .u32 0, .int .u32 0, .int .u32 0, .int .u32 0, .int .u32 0, .int .u32 0, .int .u32 0, .int .u32 0, .int .u32 0, .int .u32 0, .int .u32 0, .int .u32 0] = RC.size) := by show _ = _; rw [← hRC]; rfl
    have HOr : Hid (RC.all (·.oneCell') = true) := by show _ = _; rw [← hRC]; exact pl_one _ _ _
    rw [hRC] at CSp CI2
    obtain ⟨O1, hO1⟩ : ∃ Q, pl (row0 ss).size ss.length (outG (row0 ss).size ss.length) = Q := ⟨_, rfl⟩
    obtain ⟨I1, hI1⟩ : ∃ Q, pl (row0 ss).size ss.length (wtG ss) = Q := ⟨_, rfl⟩
    obtain ⟨I2, hI2⟩ : ∃ Q, pl (row0 ss).size ss.length (ivG (fhG ss e8) 24) = Q := ⟨_, rfl⟩
    rw [hO1] at CO CSp
    rw [hI1] at CI CSp
    rw [hI2] at CI2 CT
    obtain ⟨pic, hpic⟩ : ∃ p, mkPic (row0 ss).size ss.length (fhF ss e8) = p := ⟨_, rfl⟩
    rw [hpic] at CT ⊢
    unfold TookPic at CT
    rw [hok] at C
    clear hok e1 hu hN hz p0 p1 hW0 hb0 he HQ hQ V hq0 hRC hO1 hI1 hI2 hpic
    go_enter Tryd.func38, Tryd.ntmps38
    go_wp2_with (rw [HW0.out]; fail)
    rw [HW0.out]
    go_wp2_with fail
    refine C.out.mono ?_
    rintro e w2 ⟨rfl, hb2⟩
    have hb3 : Below W0.heap.size W0 (w2.alloc (.cells Q 68)) := hb2.alloc hb2.size _
    have HQ3' := heap_alloc_last w2 (.cells Q 68)
    obtain ⟨W3, hW3⟩ : ∃ W3, w2.alloc (.cells Q 68) = W3 := ⟨_, rfl⟩
    rw [hW3] at hb3 HQ3'
    have HW3 := Lib.hid hW3
    have HQ3 : Hid (∀ W, Below W3.heap.size W3 W → W.heap[w2.heap.size]? = some (.cells Q 68 (0, 0))) := fun W hb => (hb.block _ (Array.getElem?_eq_some_iff.1 HQ3').1).trans HQ3'
    have KR : Hid (∀ W, Below W3.heap.size W3 W → W.heap[w.heap.size + 1]? = some (.cells #[.slice none 0 0] 30 (0, 0))) := fun W hb => KR0.out W (hb3.trans (hb.mono hb3.size))
    have B3 := Lib.hid (HB0.out.trans (hb3.mono HB0.out.size))
    clear hb2 hb3 HQ3' hW3 c0
    go_upto_region 4 with (refine wpList_store_new w2 rfl 68 _ _ rfl Q rfl rfl 68 zerosP HI4.out HI5.out HI6.out ?_; rw [HW3.out])
    refine wp_region_inv_at (by kernel_rfl) (fun A0 L A W => ∃ (b0 b1 b2 b3 b4 b5 b6 b7 b8 : Bool) (v17 v18 v19 v20 v21 v22 v23 v8 : Value), L = #[b0, b1, b2, b3, b4, b5, b6, b7, b8] ∧ A = ((((((((A0.put (some 17) v17).put (some 18) v18).put (some 19) v19).put (some 20) v20).put (some 21) v21).put (some 22) v22).put (some 23) v23).put (some 8) v8) ∧ (Below W3.heap.size W3 W) ∧ Hid (b0 = true → v17 = .agg Q) ∧ Hid (b1 = true → v18 = .agg O1) ∧ Hid (b2 = true → v19 = .agg Q) ∧ Hid (b3 = true → v20 = .agg I1) ∧ Hid (b4 = true → v21 = .bool e8) ∧ Hid (b5 = true → v22 = .bool (!e8)) ∧ Hid (b6 = true → v23 = .agg RC) ∧ Hid (b7 = true → ∃ mb, v8 = .pointer (some ⟨mb, 0, none⟩) ∧ W3.heap.size ≤ mb ∧ W.heap[mb]? = some (.cells (if b8 = true then RC else #[.int .i64 0, .int .i64 0, .int .u32 0, .int .u32 0, .int .u32 0, .int .u32 0, .int .u32 0, .int .u32 0, .int .u32 0, .int .u32 0, .int .u32 0, .int .u32 0, .int .u32 0, .int .u32 0, .int .u32 0, .int .u32 0, .int .u32 0, .int .u32 0, .int .u32 0, .int .u32 0, .int .u32 0, .int .u32 0, .int .u32 0, .int .u32 0, .int .u32 0, .int .u32 0]) 68 (0, 0))) ∧ Hid (b7 = false → b8 = false)) ?_ ?_ ?_
    · intro A0
      refine ⟨false, false, false, false, false, false, false, false, false, A0.tmps.getD 17 undef, A0.tmps.getD 18 undef, A0.tmps.getD 19 undef, A0.tmps.getD 20 undef, A0.tmps.getD 21 undef, A0.tmps.getD 22 undef, A0.tmps.getD 23 undef, A0.tmps.getD 8 undef, rfl, (by simp only [put_self]), (Below.refl _ _).drew, Lib.hid (fun hf => by cases hf), Lib.hid (fun hf => by cases hf), Lib.hid (fun hf => by cases hf), Lib.hid (fun hf => by cases hf), Lib.hid (fun hf => by cases hf), Lib.hid (fun hf => by cases hf), Lib.hid (fun hf => by cases hf), Lib.hid (fun hf => by cases hf), Lib.hid (fun _ => rfl)⟩
    · intro L A W hI i hi o ho K' hK
      have hlt := (ready_left hi).1
      have hun := (ready_left hi).2
      have haf := ready_after hi ho
      clear hi
      obtain ⟨b0, b1, b2, b3, b4, b5, b6, b7, b8, v17, v18, v19, v20, v21, v22, v23, v8, rfl, rfl, hB, h0, h1, h2, h3, h4, h5, h6, h7, n7⟩ := hI
      have hc : i = 0 ∨ i = 1 ∨ i = 2 ∨ i = 3 ∨ i = 4 ∨ i = 5 ∨ i = 6 ∨ i = 7 ∨ i = 8 := by
        simp at hlt
        omega
      have qQ := HQ3.out W hB
      rcases hc with rfl | rfl | rfl | rfl | rfl | rfl | rfl | rfl | rfl
      all_goals (obtain rfl := Option.some.inj ho; clear ho; simp [Region.binds] at haf hun; (try simp only [List.getElem_toArray, List.getElem_cons_zero, List.getElem_cons_succ]); simp only [Act.put, List.setIfInBounds_toArray, List.set_cons_zero, List.set_cons_succ])
      · -- operation 0
        replace hK := Lib.hid hK
        subst hun
        rw [if_pos (by simp [Region.wanted])]
        refine wp_load_row 68 _ rfl w2.heap.size rfl 68 Q (0, 0) _ qQ Tryd.underlying68 rfl HI4.out ?_
        exact hK.out _ _ ⟨true, b1, b2, b3, b4, b5, b6, b7, b8, .agg Q, v18, v19, v20, v21, v22, v23, v8, rfl, (by simp only [Act.put, List.setIfInBounds_toArray, List.set_cons_zero, List.set_cons_succ]), hB, Lib.hid (fun _ => rfl), h1, h2, h3, h4, h5, h6, h7, n7⟩
      · -- operation 1
        replace hK := Lib.hid hK
        obtain rfl := h0.out (by simp only [haf])
        subst hun
        go_simp
        refine (CO.out _).mono ?_
        rintro e W' ⟨rfl, hb⟩
        have hkept := fun kb (hk : kb < W.heap.size) => hb.block kb hk
        exact hK.out _ _ ⟨b0, true, b2, b3, b4, b5, b6, b7, b8, .agg Q, .agg O1, v19, v20, v21, v22, v23, v8, rfl, (by simp only [Act.put, List.setIfInBounds_toArray, List.set_cons_zero, List.set_cons_succ]), hB.trans (hb.mono hB.size), Lib.hid (fun _ => rfl), Lib.hid (fun _ => rfl), h2, h3, h4, h5, h6, Lib.hid (fun hx => by obtain ⟨kb, e1, e2, e3⟩ := h7.out hx; exact ⟨kb, e1, e2, (hkept kb (Array.getElem?_eq_some_iff.1 e3).1).trans e3⟩), n7⟩
      · -- operation 2
        replace hK := Lib.hid hK
        subst hun
        rw [if_pos (by simp [Region.wanted])]
        refine wp_load_row 68 _ rfl w2.heap.size rfl 68 Q (0, 0) _ qQ Tryd.underlying68 rfl HI4.out ?_
        exact hK.out _ _ ⟨b0, b1, true, b3, b4, b5, b6, b7, b8, v17, v18, .agg Q, v20, v21, v22, v23, v8, rfl, (by simp only [Act.put, List.setIfInBounds_toArray, List.set_cons_zero, List.set_cons_succ]), hB, h0, h1, Lib.hid (fun _ => rfl), h3, h4, h5, h6, h7, n7⟩
      · -- operation 3
        replace hK := Lib.hid hK
        obtain rfl := h2.out (by simp only [haf])
        subst hun
        go_simp
        refine (CI.out _).mono ?_
        rintro e W' ⟨rfl, hb⟩
        have hkept := fun kb (hk : kb < W.heap.size) => hb.block kb hk
        exact hK.out _ _ ⟨b0, b1, b2, true, b4, b5, b6, b7, b8, v17, v18, .agg Q, .agg I1, v21, v22, v23, v8, rfl, (by simp only [Act.put, List.setIfInBounds_toArray, List.set_cons_zero, List.set_cons_succ]), hB.trans (hb.mono hB.size), h0, h1, Lib.hid (fun _ => rfl), Lib.hid (fun _ => rfl), h4, h5, h6, Lib.hid (fun hx => by obtain ⟨kb, e1, e2, e3⟩ := h7.out hx; exact ⟨kb, e1, e2, (hkept kb (Array.getElem?_eq_some_iff.1 e3).1).trans e3⟩), n7⟩
      · -- operation 4
        replace hK := Lib.hid hK
        subst hun
        go_simp
        exact hK.out _ _ ⟨b0, b1, b2, b3, true, b5, b6, b7, b8, v17, v18, v19, v20, .bool e8, v22, v23, v8, rfl, (by simp only [Act.put, List.setIfInBounds_toArray, List.set_cons_zero, List.set_cons_succ]), hB, h0, h1, h2, h3, Lib.hid (fun _ => rfl), h5, h6, h7, n7⟩
      · -- operation 5
        replace hK := Lib.hid hK
        obtain rfl := h4.out (by simp only [haf])
        subst hun
        go_simp
        exact hK.out _ _ ⟨b0, b1, b2, b3, b4, true, b6, b7, b8, v17, v18, v19, v20, .bool e8, .bool (!e8), v23, v8, rfl, (by simp only [Act.put, List.setIfInBounds_toArray, List.set_cons_zero, List.set_cons_succ]), hB, h0, h1, h2, h3, Lib.hid (fun _ => rfl), Lib.hid (fun _ => rfl), h6, h7, n7⟩
      · -- operation 6
        replace hK := Lib.hid hK
        obtain rfl := h1.out (by simp only [haf])
        obtain rfl := h3.out (by simp only [haf])
        obtain rfl := h5.out (by simp only [haf])
        subst hun
        go_simp
        refine (CSp.out _).mono ?_
        rintro e W' ⟨rfl, hb⟩
        have hkept := fun kb (hk : kb < W.heap.size) => hb.block kb hk
        exact hK.out _ _ ⟨b0, b1, b2, b3, b4, b5, true, b7, b8, v17, .agg O1, v19, .agg I1, v21, .bool (!e8), .agg RC, v8, rfl, (by simp only [Act.put, List.setIfInBounds_toArray, List.set_cons_zero, List.set_cons_succ]), hB.trans (hb.mono hB.size), h0, Lib.hid (fun _ => rfl), h2, Lib.hid (fun _ => rfl), h4, Lib.hid (fun _ => rfl), Lib.hid (fun _ => rfl), Lib.hid (fun hx => by obtain ⟨kb, e1, e2, e3⟩ := h7.out hx; exact ⟨kb, e1, e2, (hkept kb (Array.getElem?_eq_some_iff.1 e3).1).trans e3⟩), n7⟩
      · -- operation 7
        replace hK := Lib.hid hK
        subst hun
        have hbs : b8 = false := n7.out rfl
        subst hbs
        go_simp
        have hkept := fun kb (hk : kb < W.heap.size) => Below.heap_alloc W (.cells #[.int .i64 0, .int .i64 0, .int .u32 0, .int .u32 0, .int .u32 0, .int .u32 0, .int .u32 0, .int .u32 0, .int .u32 0, .int .u32 0, .int .u32 0, .int .u32 0, .int .u32 0, .int .u32 0, .int .u32 0, .int .u32 0, .int .u32 0, .int .u32 0, .int .u32 0, .int .u32 0, .int .u32 0, .int .u32 0, .int .u32 0, .int .u32 0, .int .u32 0, .int .u32 0] 68) kb hk
        have hb := Joins.below_alloc1 W (.cells #[.int .i64 0, .int .i64 0, .int .u32 0, .int .u32 0, .int .u32 0, .int .u32 0, .int .u32 0, .int .u32 0, .int .u32 0, .int .u32 0, .int .u32 0, .int .u32 0, .int .u32 0, .int .u32 0, .int .u32 0, .int .u32 0, .int .u32 0, .int .u32 0, .int .u32 0, .int .u32 0, .int .u32 0, .int .u32 0, .int .u32 0, .int .u32 0, .int .u32 0, .int .u32 0] 68)
        exact hK.out _ _ ⟨b0, b1, b2, b3, b4, b5, b6, true, false, v17, v18, v19, v20, v21, v22, v23, .pointer (some ⟨W.heap.size, 0, none⟩), rfl, (by simp only [Act.put, List.setIfInBounds_toArray, List.set_cons_zero, List.set_cons_succ]), hB.alloc hB.size _, h0, h1, h2, h3, h4, h5, h6, Lib.hid (fun _ => ⟨_, rfl, hB.size, heap_alloc_last W _⟩), Lib.hid (fun hf => by cases hf)⟩
      · -- operation 8
        replace hK := Lib.hid hK
        obtain rfl := h6.out (by simp only [haf])
        obtain ⟨mb, rfl, hmb, hm2⟩ := h7.out (by simp only [haf])
        subst hun
        simp only [Bool.false_eq_true, if_false] at hm2
        rw [if_pos (by simp [Region.wanted])]
        refine wp_store_row 68 _ _ rfl mb RC rfl rfl 68 (#[.int .i64 0, .int .i64 0, .int .u32 0, .int .u32 0, .int .u32 0, .int .u32 0, .int .u32 0, .int .u32 0, .int .u32 0, .int .u32 0, .int .u32 0, .int .u32 0, .int .u32 0, .int .u32 0, .int .u32 0, .int .u32 0, .int .u32 0, .int .u32 0, .int .u32 0, .int .u32 0, .int .u32 0, .int .u32 0, .int .u32 0, .int .u32 0, .int .u32 0, .int .u32 0]) hm2 HIr.out HZr.out HOr.out ?_
        have hnew : (W.setRow mb RC).heap[mb]? = some (.cells RC 68 (0, 0)) := setRow_heap _ _ _ _ _ _ hm2
        have hBn := setRow_below hB hmb RC
        have hoth : ∀ kb, kb ≠ mb → (W.setRow mb RC).heap[kb]? = W.heap[kb]? := fun kb hk => setRow_other W mb kb RC hk
        exact hK.out _ _ ⟨b0, b1, b2, b3, b4, b5, b6, b7, true, v17, v18, v19, v20, v21, v22, .agg RC, .pointer (some ⟨mb, 0, none⟩), rfl, (by simp only [Act.put, List.setIfInBounds_toArray, List.set_cons_zero, List.set_cons_succ]), hBn, h0, h1, h2, h3, h4, h5, Lib.hid (fun _ => rfl), Lib.hid (fun _ => ⟨mb, rfl, hmb, hnew⟩), Lib.hid (fun hf => absurd (show false = true from hf.symm.trans (by simp only [haf])) (by decide))⟩
    intro L A W hI hr
    obtain ⟨b0, b1, b2, b3, b4, b5, b6, b7, b8, v17, v18, v19, v20, v21, v22, v23, v8, rfl, rfl, hB, h0, h1, h2, h3, h4, h5, h6, h7, n7⟩ := hI
    have d0 := ready_done hr 0 _ rfl (by simp [Region.binds])
    have d2 := ready_done hr 2 _ rfl (by simp [Region.binds])
    have d4 := ready_done hr 4 _ rfl (by simp [Region.binds])
    have d7 := ready_done hr 7 _ rfl (by simp [Region.binds])
    simp at d0 d2 d4 d7
    subst d0 d2 d4 d7
    have d1 := ready_done hr 1 _ rfl (by simp [Region.binds])
    have d5 := ready_done hr 5 _ rfl (by simp [Region.binds])
    simp at d1 d5
    subst d1 d5
    have d3 := ready_done hr 3 _ rfl (by simp [Region.binds])
    simp at d3
    subst d3
    have d6 := ready_done hr 6 _ rfl (by simp [Region.binds])
    simp at d6
    subst d6
    have d8 := ready_done hr 8 _ rfl (by simp [Region.binds])
    simp at d8
    subst d8
    obtain rfl := h0.out rfl
    obtain rfl := h1.out rfl
    obtain rfl := h2.out rfl
    obtain rfl := h3.out rfl
    obtain rfl := h4.out rfl
    obtain rfl := h5.out rfl
    obtain rfl := h6.out rfl
    obtain ⟨mb7, rfl, hmb7, hm7⟩ := h7.out rfl
    simp only [Act.put, List.setIfInBounds_toArray, List.set_cons_zero, List.set_cons_succ]
    clear hr h0 h1 h2 h3 h4 h5 h6 h7 n7
    have HA := Lib.hid hm7
    have HAl := Lib.hid hmb7
    have B4 := Lib.hid (B3.out.trans (hB.mono B3.out.size))
    have R4 := Lib.hid (KR.out W hB)
    clear hm7 hmb7 hB
    go_wp2_with (refine wpList_load_row rfl 68 _ rfl mb7 rfl 68 RC (0, 0) _ HA.out Tryd.underlying68 rfl HIr.out ?_)
    refine (CI2.out _).mono ?_
    rintro e w5 ⟨rfl, hb5⟩
    have R5 := Lib.hid ((hb5.block _ (Array.getElem?_eq_some_iff.1 R4.out).1).trans R4.out)
    have B5 := Lib.hid (B4.out.trans (hb5.mono B4.out.size))
    clear hb5
    go_wp2_with fail
    refine (CT.out _).mono ?_
    rintro e w6 ⟨g4, cap4, rfl, hown4, hb4⟩
    have hp2 := (hb4.block _ (Array.getElem?_eq_some_iff.1 R5.out).1).trans R5.out
    have hfr : w6.frozen? ⟨w.heap.size + 1, 0, none⟩ = false := free_of_one hp2
    have hc2 : w6.cell? ⟨w.heap.size + 1, 0, none⟩ = some (.slice none 0 0) := cell_of_one hp2
    have O2 := Lib.hid (own_set (u := .slice (some ⟨g4, 0, none⟩) pic.length cap4) hown4 hp2 (by decide))
    have P6 := Lib.hid hp2
    have B6 := Lib.hid (B5.out.trans (hb4.mono B5.out.size))
    have hs4 := B5.out.size
    clear hown4 hp2 hb4
    go_wp2_with fail
    refine bodyPost_ret (v := .tuple #[.agg #[.slice (some ⟨g4, 0, none⟩) pic.length cap4], .bool true]) (by simp [results, Tryd.results38, go_sem, cell_of_one (one_setCell P6.out)]) rfl ⟨_, _, _, rfl, Joins.ownsRow_le O2.out hs4, B6.out.setCell (by show w.heap.size ≤ w.heap.size + 1; omega) _⟩
end Go.Proofs.YtenbhnfajjknkaaDoor
