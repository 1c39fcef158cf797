/- Contracts of single functions, and plain lemmas, on which the exact laws of this seat rest; each holds under the conditions that it states. -/
import Derived.Test.YtakaglbbcaplhaaDoorDG
import Derived.Test.YtakaglbbcaplhaaDoorQh
import Derived.Test.YtakaglbbcaplhaaDoorSz
namespace Go.Proofs.YtakaglbbcaplhaaDoor
set_option linter.unusedVariables false
set_option linter.unusedSimpArgs false
open Go.RowKit

set_option maxHeartbeats 4000000 in
set_option maxRecDepth 100000 in
theorem law_NearestOf (u : Value) (ss : List ByteArray) (k X Y : Int) (w : World) (hN : ss.length ≤ maxLen) (hz : ∀ s ∈ ss, s.size ≤ maxLen) (hu : Sl w u ss) (he : ErrLen w) (hn : NoRes w) :
    Calls Tryd.prog 11 #[.agg #[u], .int .i64 k, .agg #[.int .i64 X, .int .i64 Y]] w fun e w' => e = .returned (.bool true) ∧ Below w.heap.size w w' := by
  have HSL : Hid (∀ W, Below w.heap.size w W → Sl W u ss) := fun W hb => hu.below hb
  have HEL : Hid (∀ W, Below w.heap.size w W → ErrLen W ∧ NoRes W) := fun W hb => ⟨he.below hb, hn.below hb⟩
  obtain ⟨W0, hW0⟩ : ∃ W0, ((w.alloc (.cells #[u] 24)).alloc (.cells #[.int .i64 X, .int .i64 Y] 26)) = W0 := ⟨_, rfl⟩
  have b0 : Below w.heap.size w W0 := by rw [← hW0]; exact Joins.below_alloc2 _ _ _
  have hs0 : W0.heap.size = w.heap.size + 1 + 1 := by rw [← hW0]; simp
  have hp0 : W0.heap[w.heap.size]? = some (.cells #[u] 24 (0, 0)) := by
    rw [← hW0, Below.heap_alloc _ _ _ (by simp)]; exact heap_alloc_last w _
  have hr0 : W0.heap[w.heap.size + 1]? = some (.cells #[.int .i64 X, .int .i64 Y] 26 (0, 0)) := by
    rw [← hW0]
    have := heap_alloc_last (w.alloc (.cells #[u] 24)) (.cells #[.int .i64 X, .int .i64 Y] 26)
    rwa [World.size_alloc] at this
  have HV0 : Hid (∀ W, Below W0.heap.size W0 W → W.cell? ⟨w.heap.size, 0, none⟩ = some u ∧ W.cell? ⟨w.heap.size + 1, 0, none⟩ = some (.int .i64 X) ∧ W.cell? ⟨w.heap.size + 1, 1, none⟩ = some (.int .i64 Y)) := fun W hb =>
    ⟨cell_kept hb (cell_of_one hp0), cell_kept hb (by rw [Joins.cell_of_block hr0 0]; rfl), cell_kept hb (by rw [Joins.cell_of_block hr0 1]; rfl)⟩
  have C0 := Lib.hid (szPicture_any u ss 1048576 W0 (by omega) (by omega) hN hz (HSL.out _ b0))
  have B0 := Lib.hid b0
  have CS : Hid (∀ x W, Sl W x ss → Calls Tryd.prog 43 #[.agg #[x], .int .i64 k, .agg #[.int .i64 X, .int .i64 Y]] W (SaysSOk (neV ss k X Y) (neOk ss k X Y) W)) := fun x W hx => by
    exact spec_NearestOf x ss k X Y W hN hz hx
  have CI : Hid (∀ x W, Sl W x ss → ErrLen W ∧ NoRes W → Calls Tryd.prog 44 #[.agg #[x], .int .i64 k, .agg #[.int .i64 X, .int .i64 Y]] W (SaysSOk (neV ss k X Y) (neOk ss k X Y) W)) := fun x W hx hw => impl_NearestOf x ss k X Y W hN hz hx hw.1 hw.2
  have CE1 : Hid (∀ x y W, Sl W x ss → Sl W y ss → Calls Tryd.prog 20 #[.agg #[x], .agg #[y]] W (SaysB true W)) := fun x y W hx hy => by
    have := eqPicture_any x y ss ss W hN hN hx hy
    rwa [sameL_self] at this
  obtain ⟨ok, hok⟩ : ∃ b, neOk ss k X Y = b := ⟨_, rfl⟩
  obtain ⟨⟨p, q⟩, hpq⟩ : ∃ b, neV ss k X Y = b := ⟨_, rfl⟩
  rw [hok, hpq] at CS CI
  have CQ : Hid (∀ W, Calls Tryd.prog 45 #[.agg #[.int .i64 p, .int .i64 q], .agg #[.int .i64 p, .int .i64 q]] W (SaysB true W)) := fun W => by
    have := eqSpot_any p q p q W
    simpa using this
  have c0 := (HV0.out W0 (Below.refl _ _)).1
  have l0 : w.heap.size + 1 < W0.heap.size := by omega
  have HW := Lib.hid hW0
  clear hu he hn b0 hok hpq hp0 hr0 hW0
  go_enter Tryd.func11, Tryd.ntmps11
  go_wp2_with fail
  rw [HW.out]
  refine C0.out.mono ?_
  rintro e w1 ⟨r, rfl, hr1, hr2, hr3, hb1⟩
  have V1 := Lib.hid hb1
  have B1 : Hid (Below w.heap.size w w1) := B0.out.trans (hb1.mono (by omega))
  have l1 : w.heap.size + 1 < w1.heap.size := Nat.lt_of_lt_of_le l0 hb1.size
  clear hb1 c0
  by_cases hr : r < 0
  · clear hr3
    go_wp2_with fail
    go_ret
    exact ⟨rfl, B1.out⟩
  · have hsm : ss.length ≤ 1048576 := by have := (hr3 (by omega)).1; omega
    have HX : Hid (∀ W, Below w1.heap.size w1 W → W.cell? ⟨w.heap.size, 0, none⟩ = some u ∧ W.cell? ⟨w.heap.size + 1, 0, none⟩ = some (.int .i64 X) ∧ W.cell? ⟨w.heap.size + 1, 1, none⟩ = some (.int .i64 Y)) := fun W hb => HV0.out W (V1.out.trans (hb.mono V1.out.size))
    have HT1 : Hid (∀ W, Below w1.heap.size w1 W → Calls Tryd.prog 17 #[.agg #[u]] W (TookPic W ss)) := fun W hb => toPicture_any u ss W hsm (HSL.out _ (B1.out.trans (hb.mono B1.out.size)))
    have HT3 : Hid (∀ W, Calls Tryd.prog 18 #[.agg #[.int .i64 X, .int .i64 Y]] W (fun e w' => e = .returned (.agg #[.int .i64 X, .int .i64 Y]) ∧ Below W.heap.size W w')) := fun W => toSpot_any X Y W
    clear hr3 hr2 hr1
    go_wp2_with fail
    refine wp_region_inv_at (by kernel_rfl) (fun A0 L A W => ∃ (b0 b1 b2 b3 b4 b5 b6 b7 b8 b9 b10 b11 : Bool) (v19 v20 v21 v22 v23 v24 v18 v25 v26 v8 v9 : Value), L = #[b0, b1, b2, b3, b4, b5, b6, b7, b8, b9, b10, b11] ∧ A = (((((((((((A0.put (some 19) v19).put (some 20) v20).put (some 21) v21).put (some 22) v22).put (some 23) v23).put (some 24) v24).put (some 18) v18).put (some 25) v25).put (some 26) v26).put (some 8) v8).put (some 9) v9) ∧ Below w1.heap.size w1 W ∧ Hid (b0 = true → v19 = .agg #[u]) ∧ Hid (b1 = true → b5 = false → ∃ g3 cap3, v20 = .agg #[.slice (some ⟨g3, 0, none⟩) ss.length cap3] ∧ Sl W (.slice (some ⟨g3, 0, none⟩) ss.length cap3) ss) ∧ Hid (b2 = true → v21 = .int .i64 k) ∧ Hid (b3 = true → v22 = .agg #[.int .i64 X, .int .i64 Y]) ∧ Hid (b4 = true → v23 = .agg #[.int .i64 X, .int .i64 Y]) ∧ Hid (b5 = true → v24 = .tuple #[.agg #[.int .i64 p, .int .i64 q], .bool ok]) ∧ Hid (b6 = true → v18 = .tuple #[.agg #[.int .i64 p, .int .i64 q], .bool ok]) ∧ Hid (b7 = true → v25 = .agg #[.int .i64 p, .int .i64 q]) ∧ Hid (b8 = true → v26 = .bool ok) ∧ Hid (b9 = true → ∃ mb, v8 = .pointer (some ⟨mb, 0, none⟩) ∧ w1.heap.size ≤ mb ∧ W.heap[mb]? = some (.cells (if b10 = true then #[.int .i64 p, .int .i64 q] else #[.int .i64 0, .int .i64 0]) 31 (0, 0))) ∧ Hid (b9 = false → b10 = false) ∧ Hid (b11 = true → v9 = .bool ok)) ?_ ?_ ?_
    · intro A0
      refine ⟨false, false, false, false, false, false, false, false, false, false, false, false, A0.tmps.getD 19 undef, A0.tmps.getD 20 undef, A0.tmps.getD 21 undef, A0.tmps.getD 22 undef, A0.tmps.getD 23 undef, A0.tmps.getD 24 undef, A0.tmps.getD 18 undef, A0.tmps.getD 25 undef, A0.tmps.getD 26 undef, A0.tmps.getD 8 undef, A0.tmps.getD 9 undef, rfl, (by simp only [put_self]), (Below.refl _ _).drew, Lib.hid (fun hf => by cases hf), Lib.hid (fun hf => by cases hf), Lib.hid (fun hf => by cases hf), Lib.hid (fun hf => by cases hf), Lib.hid (fun hf => by cases hf), Lib.hid (fun hf => by cases hf), Lib.hid (fun hf => by cases hf), Lib.hid (fun hf => by cases hf), Lib.hid (fun hf => by cases hf), Lib.hid (fun hf => by cases hf), Lib.hid (fun _ => rfl), Lib.hid (fun hf => by cases hf)⟩
    · intro L A W hI i hi o ho K' hK
      have hlt := (ready_left hi).1
      have hun := (ready_left hi).2
      have haf := ready_after hi ho
      clear hi
      obtain ⟨b0, b1, b2, b3, b4, b5, b6, b7, b8, b9, b10, b11, v19, v20, v21, v22, v23, v24, v18, v25, v26, v8, v9, rfl, rfl, hB, h0, h1, h2, h3, h4, h5, h6, h7, h8, h9, n9, h11⟩ := hI
      have hc : i = 0 ∨ i = 1 ∨ i = 2 ∨ i = 3 ∨ i = 4 ∨ i = 5 ∨ i = 6 ∨ i = 7 ∨ i = 8 ∨ i = 9 ∨ i = 10 ∨ i = 11 := by
        simp at hlt
        omega
      have q0 := (HX.out W hB).1
      have q1 := (HX.out W hB).2.1
      have q2 := (HX.out W hB).2.2
      rcases hc with rfl | rfl | rfl | rfl | rfl | rfl | rfl | rfl | rfl | rfl | rfl | rfl
      all_goals (obtain rfl := Option.some.inj ho; clear ho; simp [Region.binds] at haf hun; simp only [Act.put, List.setIfInBounds_toArray, List.set_cons_zero, List.set_cons_succ])
      · -- operation 0
        subst hun
        go_simp
        exact hK _ _ ⟨true, b1, b2, b3, b4, b5, b6, b7, b8, b9, b10, b11, .agg #[u], v20, v21, v22, v23, v24, v18, v25, v26, v8, v9, rfl, (by simp only [Act.put, List.setIfInBounds_toArray, List.set_cons_zero, List.set_cons_succ]), hB, Lib.hid (fun _ => rfl), h1, h2, h3, h4, h5, h6, h7, h8, h9, n9, h11⟩
      · -- operation 1
        obtain rfl := h0.out (by simp only [haf])
        subst hun
        go_simp
        refine (HT1.out _ hB).mono ?_
        rintro e W' ⟨g3, cap3, rfl, hown3, hb⟩
        have hkept := fun kb (hk : kb < W.heap.size) => hb.block kb hk
        exact hK _ _ ⟨b0, true, b2, b3, b4, b5, b6, b7, b8, b9, b10, b11, .agg #[u], .agg #[.slice (some ⟨g3, 0, none⟩) ss.length cap3], v21, v22, v23, v24, v18, v25, v26, v8, v9, rfl, (by simp only [Act.put, List.setIfInBounds_toArray, List.set_cons_zero, List.set_cons_succ]), hB.trans (hb.mono hB.size), Lib.hid (fun _ => rfl), Lib.hid (fun _ _ => ⟨g3, cap3, rfl, hown3.sl⟩), h2, h3, h4, h5, h6, h7, h8, Lib.hid (fun hx => by obtain ⟨kb, e1, e2, e3⟩ := h9.out hx; exact ⟨kb, e1, e2, (hkept kb (Array.getElem?_eq_some_iff.1 e3).1).trans e3⟩), n9, h11⟩
      · -- operation 2
        subst hun
        go_simp
        exact hK _ _ ⟨b0, b1, true, b3, b4, b5, b6, b7, b8, b9, b10, b11, v19, v20, .int .i64 k, v22, v23, v24, v18, v25, v26, v8, v9, rfl, (by simp only [Act.put, List.setIfInBounds_toArray, List.set_cons_zero, List.set_cons_succ]), hB, h0, h1, Lib.hid (fun _ => rfl), h3, h4, h5, h6, h7, h8, h9, n9, h11⟩
      · -- operation 3
        subst hun
        go_simp
        exact hK _ _ ⟨b0, b1, b2, true, b4, b5, b6, b7, b8, b9, b10, b11, v19, v20, v21, .agg #[.int .i64 X, .int .i64 Y], v23, v24, v18, v25, v26, v8, v9, rfl, (by simp only [Act.put, List.setIfInBounds_toArray, List.set_cons_zero, List.set_cons_succ]), hB, h0, h1, h2, Lib.hid (fun _ => rfl), h4, h5, h6, h7, h8, h9, n9, h11⟩
      · -- operation 4
        obtain rfl := h3.out (by simp only [haf])
        subst hun
        go_simp
        refine (HT3.out _).mono ?_
        rintro e W' ⟨rfl, hb⟩
        have hkept := fun kb (hk : kb < W.heap.size) => hb.block kb hk
        exact hK _ _ ⟨b0, b1, b2, b3, true, b5, b6, b7, b8, b9, b10, b11, v19, v20, v21, .agg #[.int .i64 X, .int .i64 Y], .agg #[.int .i64 X, .int .i64 Y], v24, v18, v25, v26, v8, v9, rfl, (by simp only [Act.put, List.setIfInBounds_toArray, List.set_cons_zero, List.set_cons_succ]), hB.trans (hb.mono hB.size), h0, Lib.hid (fun hx hu => by obtain ⟨g3, cap3, e1, fx⟩ := h1.out hx hu; exact ⟨g3, cap3, e1, fx.below hb⟩), h2, Lib.hid (fun _ => rfl), Lib.hid (fun _ => rfl), h5, h6, h7, h8, Lib.hid (fun hx => by obtain ⟨kb, e1, e2, e3⟩ := h9.out hx; exact ⟨kb, e1, e2, (hkept kb (Array.getElem?_eq_some_iff.1 e3).1).trans e3⟩), n9, h11⟩
      · -- operation 5
        obtain ⟨g3, cap3, rfl, hsl⟩ := h1.out (by simp only [haf]) (by first | exact hun | simp only [haf])
        obtain rfl := h2.out (by simp only [haf])
        obtain rfl := h4.out (by simp only [haf])
        subst hun
        go_simp
        refine (CS.out _ _ hsl).mono ?_
        rintro e W' ⟨rfl, hb⟩
        have hkept := fun kb (hk : kb < W.heap.size) => hb.block kb hk
        exact hK _ _ ⟨b0, b1, b2, b3, b4, true, b6, b7, b8, b9, b10, b11, v19, .agg #[.slice (some ⟨g3, 0, none⟩) ss.length cap3], .int .i64 k, v22, .agg #[.int .i64 X, .int .i64 Y], .tuple #[.agg #[.int .i64 p, .int .i64 q], .bool ok], v18, v25, v26, v8, v9, rfl, (by simp only [Act.put, List.setIfInBounds_toArray, List.set_cons_zero, List.set_cons_succ]), hB.trans (hb.mono hB.size), h0, Lib.hid (fun _ hu => by cases hu), Lib.hid (fun _ => rfl), h3, Lib.hid (fun _ => rfl), Lib.hid (fun _ => rfl), h6, h7, h8, Lib.hid (fun hx => by obtain ⟨kb, e1, e2, e3⟩ := h9.out hx; exact ⟨kb, e1, e2, (hkept kb (Array.getElem?_eq_some_iff.1 e3).1).trans e3⟩), n9, h11⟩
      · -- operation 6
        obtain rfl := h5.out (by simp only [haf])
        subst hun
        go_simp
        exact hK _ _ ⟨b0, b1, b2, b3, b4, b5, true, b7, b8, b9, b10, b11, v19, v20, v21, v22, v23, .tuple #[.agg #[.int .i64 p, .int .i64 q], .bool ok], .tuple #[.agg #[.int .i64 p, .int .i64 q], .bool ok], v25, v26, v8, v9, rfl, (by simp only [Act.put, List.setIfInBounds_toArray, List.set_cons_zero, List.set_cons_succ]), hB, h0, h1, h2, h3, h4, Lib.hid (fun _ => rfl), Lib.hid (fun _ => rfl), h7, h8, h9, n9, h11⟩
      · -- operation 7
        obtain rfl := h6.out (by simp only [haf])
        subst hun
        go_simp
        exact hK _ _ ⟨b0, b1, b2, b3, b4, b5, b6, true, b8, b9, b10, b11, v19, v20, v21, v22, v23, v24, .tuple #[.agg #[.int .i64 p, .int .i64 q], .bool ok], .agg #[.int .i64 p, .int .i64 q], v26, v8, v9, rfl, (by simp only [Act.put, List.setIfInBounds_toArray, List.set_cons_zero, List.set_cons_succ]), hB, h0, h1, h2, h3, h4, h5, Lib.hid (fun _ => rfl), Lib.hid (fun _ => rfl), h8, h9, n9, h11⟩
      · -- operation 8
        obtain rfl := h6.out (by simp only [haf])
        subst hun
        go_simp
        exact hK _ _ ⟨b0, b1, b2, b3, b4, b5, b6, b7, true, b9, b10, b11, v19, v20, v21, v22, v23, v24, .tuple #[.agg #[.int .i64 p, .int .i64 q], .bool ok], v25, .bool ok, v8, v9, rfl, (by simp only [Act.put, List.setIfInBounds_toArray, List.set_cons_zero, List.set_cons_succ]), hB, h0, h1, h2, h3, h4, h5, Lib.hid (fun _ => rfl), h7, Lib.hid (fun _ => rfl), h9, n9, h11⟩
      · -- operation 9
        subst hun
        have hbs : b10 = false := n9.out rfl
        subst hbs
        go_simp
        have hkept := fun kb (hk : kb < W.heap.size) => Below.heap_alloc W (.cells #[.int .i64 0, .int .i64 0] 31) kb hk
        have hb := Joins.below_alloc1 W (.cells #[.int .i64 0, .int .i64 0] 31)
        exact hK _ _ ⟨b0, b1, b2, b3, b4, b5, b6, b7, b8, true, false, b11, v19, v20, v21, v22, v23, v24, v18, v25, v26, .pointer (some ⟨W.heap.size, 0, none⟩), v9, rfl, (by simp only [Act.put, List.setIfInBounds_toArray, List.set_cons_zero, List.set_cons_succ]), hB.alloc hB.size _, h0, Lib.hid (fun hx hu => by obtain ⟨g3, cap3, e1, fx⟩ := h1.out hx hu; exact ⟨g3, cap3, e1, fx.below hb⟩), h2, h3, h4, h5, h6, h7, h8, Lib.hid (fun _ => ⟨_, rfl, hB.size, heap_alloc_last W _⟩), Lib.hid (fun hf => by cases hf), h11⟩
      · -- operation 10
        obtain rfl := h7.out (by simp only [haf])
        obtain ⟨mb, rfl, hmb, hm2⟩ := h9.out (by simp only [haf])
        subst hun
        have hv2 : Var2 W mb (0, 0) := by show W.heap[mb]? = _; simpa using hm2
        have hq1 := Joins.block_setCell hv2 (.int .i64 p) (i := 0)
        have c0 := hv2.c0
        have c1 := hv2.c1
        have f0 := two_free hv2 0
        have f1 := two_free hv2 1
        have c1' : (W.setCell ⟨mb, 0, none⟩ (.int .i64 p)).cell? ⟨mb, 1, none⟩ = some (.int .i64 0) := by rw [Joins.cell_of_block hq1 1]; rfl
        have f1' : (W.setCell ⟨mb, 0, none⟩ (.int .i64 p)).frozen? ⟨mb, 1, none⟩ = false := Joins.unfrozen_of_block hq1 1
        have hnew := hv2.upd p q
        have hBn := (hB.setCell (p := ⟨mb, 0, none⟩) hmb (.int .i64 p)).setCell (p := ⟨mb, 1, none⟩) hmb (.int .i64 q)
        have hoth : ∀ kb, kb ≠ mb → ((W.setCell ⟨mb, 0, none⟩ (.int .i64 p)).setCell ⟨mb, 1, none⟩ (.int .i64 q)).heap[kb]? = W.heap[kb]? := fun kb hk => (Below.heap_setCell _ _ _ _ hk).trans (Below.heap_setCell _ _ _ _ hk)
        go_simp
        exact hK _ _ ⟨b0, b1, b2, b3, b4, b5, b6, b7, b8, b9, true, b11, v19, v20, v21, v22, v23, v24, v18, .agg #[.int .i64 p, .int .i64 q], v26, .pointer (some ⟨mb, 0, none⟩), v9, rfl, (by simp only [Act.put, List.setIfInBounds_toArray, List.set_cons_zero, List.set_cons_succ]), hBn, h0, Lib.hid (fun _ hu => absurd (show false = true from hu.symm.trans (by simp only [haf])) (by decide)), h2, h3, h4, h5, h6, Lib.hid (fun _ => rfl), h8, Lib.hid (fun _ => ⟨mb, rfl, hmb, hnew⟩), Lib.hid (fun hf => absurd (show false = true from hf.symm.trans (by simp only [haf])) (by decide)), h11⟩
      · -- operation 11
        obtain rfl := h8.out (by simp only [haf])
        subst hun
        go_simp
        exact hK _ _ ⟨b0, b1, b2, b3, b4, b5, b6, b7, b8, b9, b10, true, v19, v20, v21, v22, v23, v24, v18, v25, .bool ok, v8, .bool ok, rfl, (by simp only [Act.put, List.setIfInBounds_toArray, List.set_cons_zero, List.set_cons_succ]), hB, h0, h1, h2, h3, h4, h5, h6, h7, Lib.hid (fun _ => rfl), h9, n9, Lib.hid (fun _ => rfl)⟩
    intro L A W hI hr
    obtain ⟨b0, b1, b2, b3, b4, b5, b6, b7, b8, b9, b10, b11, v19, v20, v21, v22, v23, v24, v18, v25, v26, v8, v9, rfl, rfl, hB, h0, h1, h2, h3, h4, h5, h6, h7, h8, h9, n9, h11⟩ := hI
    have d0 := ready_done hr 0 _ rfl (by simp [Region.binds])
    have d2 := ready_done hr 2 _ rfl (by simp [Region.binds])
    have d3 := ready_done hr 3 _ rfl (by simp [Region.binds])
    have d9 := ready_done hr 9 _ rfl (by simp [Region.binds])
    simp at d0 d2 d3 d9
    subst d0 d2 d3 d9
    have d1 := ready_done hr 1 _ rfl (by simp [Region.binds])
    simp at d1
    subst d1
    have d4 := ready_done hr 4 _ rfl (by simp [Region.binds])
    simp at d4
    subst d4
    have d5 := ready_done hr 5 _ rfl (by simp [Region.binds])
    simp at d5
    subst d5
    have d6 := ready_done hr 6 _ rfl (by simp [Region.binds])
    simp at d6
    subst d6
    have d7 := ready_done hr 7 _ rfl (by simp [Region.binds])
    have d8 := ready_done hr 8 _ rfl (by simp [Region.binds])
    simp at d7 d8
    subst d7 d8
    have d10 := ready_done hr 10 _ rfl (by simp [Region.binds])
    simp at d10
    subst d10
    have d11 := ready_done hr 11 _ rfl (by simp [Region.binds])
    simp at d11
    subst d11
    obtain rfl := h0.out rfl
    obtain rfl := h2.out rfl
    obtain rfl := h3.out rfl
    obtain rfl := h4.out rfl
    obtain rfl := h5.out rfl
    obtain rfl := h6.out rfl
    obtain rfl := h7.out rfl
    obtain rfl := h8.out rfl
    obtain ⟨mb9, rfl, hmb9, hm9⟩ := h9.out rfl
    obtain rfl := h11.out rfl
    simp only [Act.put, List.setIfInBounds_toArray, List.set_cons_zero, List.set_cons_succ]
    clear hr h0 h1 h2 h3 h4 h5 h6 h7 h8 h9 n9 h11
    have HQ1 : Hid (Var2 W mb9 (p, q)) := hm9
    have hl9 := HQ1.out.lt
    have V6 := Lib.hid (V1.out.trans (hB.mono V1.out.size))
    have B6 := Lib.hid (B1.out.trans (hB.mono B1.out.size))
    have l6 : w.heap.size + 1 < W.heap.size := Nat.lt_of_lt_of_le l1 hB.size
    have c6 := (HV0.out W V6.out).1
    clear hB hm9 HX HT1 CS
    go_wp2_with fail
    refine (toPicture_any u ss _ hsm (HSL.out _ B6.out)).mono ?_
    rintro e w7 ⟨g7, cap7, rfl, hown7, hb7⟩
    have ha7 := Joins.below_alloc1 w7 (.cells #[.slice (some ⟨g7, 0, none⟩) ss.length cap7] 29)
    have hba := hb7.trans (ha7.mono hb7.size)
    have hlast := heap_alloc_last w7 (.cells #[.slice (some ⟨g7, 0, none⟩) ss.length cap7] 29)
    have hsl7 := hown7.sl.below ha7
    have HC1 : Hid (∀ W, Below (w7.alloc (.cells #[.slice (some ⟨g7, 0, none⟩) ss.length cap7] 29)).heap.size (w7.alloc (.cells #[.slice (some ⟨g7, 0, none⟩) ss.length cap7] 29)) W → W.cell? ⟨w7.heap.size, 0, none⟩ = some (.slice (some ⟨g7, 0, none⟩) ss.length cap7) ∧ Sl W (.slice (some ⟨g7, 0, none⟩) ss.length cap7) ss) := fun W hb => ⟨cell_kept hb (cell_of_one hlast), hsl7.below hb⟩
    have V7 := Lib.hid (V6.out.trans (hba.mono V6.out.size))
    have B7 := Lib.hid (B6.out.trans (hba.mono B6.out.size))
    have l7 : w7.heap.size < (w7.alloc (.cells #[.slice (some ⟨g7, 0, none⟩) ss.length cap7] 29)).heap.size := (Array.getElem?_eq_some_iff.1 hlast).1
    have l7' : w.heap.size + 1 < (w7.alloc (.cells #[.slice (some ⟨g7, 0, none⟩) ss.length cap7] 29)).heap.size := Nat.lt_of_lt_of_le l6 hba.size
    have HX : Hid (∀ W, Below (w7.alloc (.cells #[.slice (some ⟨g7, 0, none⟩) ss.length cap7] 29)).heap.size (w7.alloc (.cells #[.slice (some ⟨g7, 0, none⟩) ss.length cap7] 29)) W → W.cell? ⟨w7.heap.size, 0, none⟩ = some (.slice (some ⟨g7, 0, none⟩) ss.length cap7) ∧ W.cell? ⟨w.heap.size + 1, 0, none⟩ = some (.int .i64 X) ∧ W.cell? ⟨w.heap.size + 1, 1, none⟩ = some (.int .i64 Y)) := fun W hb => ⟨(HC1.out W hb).1, (HV0.out W (V7.out.trans (hb.mono V7.out.size))).2⟩
    have HCI : Hid (∀ W, Below (w7.alloc (.cells #[.slice (some ⟨g7, 0, none⟩) ss.length cap7] 29)).heap.size (w7.alloc (.cells #[.slice (some ⟨g7, 0, none⟩) ss.length cap7] 29)) W → Calls Tryd.prog 44 #[.agg #[.slice (some ⟨g7, 0, none⟩) ss.length cap7], .int .i64 k, .agg #[.int .i64 X, .int .i64 Y]] W (SaysSOk (p, q) ok W)) := fun W hb => CI.out _ W (HC1.out W hb).2 (HEL.out W (B7.out.trans (hb.mono B7.out.size)))
    have HQ7 := Lib.hid (HQ1.out.below hba)
    have lq7 : w7.heap.size < (w7.alloc (.cells #[.slice (some ⟨g7, 0, none⟩) ss.length cap7] 29)).heap.size := l7
    clear hb7 ha7 hba hlast hsl7 hown7 c6 CI HQ1 hl9
    go_wp2_with fail
    obtain ⟨W7, hW7⟩ : ∃ W7, (w7.alloc (.cells #[.slice (some ⟨g7, 0, none⟩) ss.length cap7] 29)) = W7 := ⟨_, rfl⟩
    obtain ⟨m7, hm7⟩ : ∃ m7, w7.heap.size = m7 := ⟨_, rfl⟩
    rw [hW7] at HC1 V7 B7 l7 l7' HX HCI HQ7 ⊢
    rw [hm7] at HC1 l7 HX ⊢
    clear hW7 hm7
    refine wp_region_inv_at (by kernel_rfl) (fun A0 L A W => ∃ (b0 b1 b2 b3 b4 b5 b6 b7 b8 b9 b10 : Bool) (v30 v31 v32 v33 v34 v29 v35 v36 v11 v12 : Value), L = #[b0, b1, b2, b3, b4, b5, b6, b7, b8, b9, b10] ∧ A = ((((((((((A0.put (some 30) v30).put (some 31) v31).put (some 32) v32).put (some 33) v33).put (some 34) v34).put (some 29) v29).put (some 35) v35).put (some 36) v36).put (some 11) v11).put (some 12) v12) ∧ Below W7.heap.size W7 W ∧ Hid (b0 = true → v30 = .agg #[.slice (some ⟨g7, 0, none⟩) ss.length cap7]) ∧ Hid (b1 = true → v31 = .int .i64 k) ∧ Hid (b2 = true → v32 = .agg #[.int .i64 X, .int .i64 Y]) ∧ Hid (b3 = true → v33 = .agg #[.int .i64 X, .int .i64 Y]) ∧ Hid (b4 = true → v34 = .tuple #[.agg #[.int .i64 p, .int .i64 q], .bool ok]) ∧ Hid (b5 = true → v29 = .tuple #[.agg #[.int .i64 p, .int .i64 q], .bool ok]) ∧ Hid (b6 = true → v35 = .agg #[.int .i64 p, .int .i64 q]) ∧ Hid (b7 = true → v36 = .bool ok) ∧ Hid (b8 = true → ∃ mb, v11 = .pointer (some ⟨mb, 0, none⟩) ∧ W7.heap.size ≤ mb ∧ W.heap[mb]? = some (.cells (if b9 = true then #[.int .i64 p, .int .i64 q] else #[.int .i64 0, .int .i64 0]) 31 (0, 0))) ∧ Hid (b8 = false → b9 = false) ∧ Hid (b10 = true → v12 = .bool ok)) ?_ ?_ ?_
    · intro A0
      refine ⟨false, false, false, false, false, false, false, false, false, false, false, A0.tmps.getD 30 undef, A0.tmps.getD 31 undef, A0.tmps.getD 32 undef, A0.tmps.getD 33 undef, A0.tmps.getD 34 undef, A0.tmps.getD 29 undef, A0.tmps.getD 35 undef, A0.tmps.getD 36 undef, A0.tmps.getD 11 undef, A0.tmps.getD 12 undef, rfl, (by simp only [put_self]), (Below.refl _ _).drew, Lib.hid (fun hf => by cases hf), Lib.hid (fun hf => by cases hf), Lib.hid (fun hf => by cases hf), Lib.hid (fun hf => by cases hf), Lib.hid (fun hf => by cases hf), Lib.hid (fun hf => by cases hf), Lib.hid (fun hf => by cases hf), Lib.hid (fun hf => by cases hf), Lib.hid (fun hf => by cases hf), Lib.hid (fun _ => rfl), Lib.hid (fun hf => by cases hf)⟩
    · intro L A W hI i hi o ho K' hK
      have hlt := (ready_left hi).1
      have hun := (ready_left hi).2
      have haf := ready_after hi ho
      clear hi
      obtain ⟨b0, b1, b2, b3, b4, b5, b6, b7, b8, b9, b10, v30, v31, v32, v33, v34, v29, v35, v36, v11, v12, rfl, rfl, hB, h0, h1, h2, h3, h4, h5, h6, h7, h8, n8, h10⟩ := hI
      have hc : i = 0 ∨ i = 1 ∨ i = 2 ∨ i = 3 ∨ i = 4 ∨ i = 5 ∨ i = 6 ∨ i = 7 ∨ i = 8 ∨ i = 9 ∨ i = 10 := by
        simp at hlt
        omega
      have q0 := (HX.out W hB).1
      have q1 := (HX.out W hB).2.1
      have q2 := (HX.out W hB).2.2
      rcases hc with rfl | rfl | rfl | rfl | rfl | rfl | rfl | rfl | rfl | rfl | rfl
      all_goals (obtain rfl := Option.some.inj ho; clear ho; simp [Region.binds] at haf hun; simp only [Act.put, List.setIfInBounds_toArray, List.set_cons_zero, List.set_cons_succ])
      · -- operation 0
        subst hun
        go_simp
        exact hK _ _ ⟨true, b1, b2, b3, b4, b5, b6, b7, b8, b9, b10, .agg #[.slice (some ⟨g7, 0, none⟩) ss.length cap7], v31, v32, v33, v34, v29, v35, v36, v11, v12, rfl, (by simp only [Act.put, List.setIfInBounds_toArray, List.set_cons_zero, List.set_cons_succ]), hB, Lib.hid (fun _ => rfl), h1, h2, h3, h4, h5, h6, h7, h8, n8, h10⟩
      · -- operation 1
        subst hun
        go_simp
        exact hK _ _ ⟨b0, true, b2, b3, b4, b5, b6, b7, b8, b9, b10, v30, .int .i64 k, v32, v33, v34, v29, v35, v36, v11, v12, rfl, (by simp only [Act.put, List.setIfInBounds_toArray, List.set_cons_zero, List.set_cons_succ]), hB, h0, Lib.hid (fun _ => rfl), h2, h3, h4, h5, h6, h7, h8, n8, h10⟩
      · -- operation 2
        subst hun
        go_simp
        exact hK _ _ ⟨b0, b1, true, b3, b4, b5, b6, b7, b8, b9, b10, v30, v31, .agg #[.int .i64 X, .int .i64 Y], v33, v34, v29, v35, v36, v11, v12, rfl, (by simp only [Act.put, List.setIfInBounds_toArray, List.set_cons_zero, List.set_cons_succ]), hB, h0, h1, Lib.hid (fun _ => rfl), h3, h4, h5, h6, h7, h8, n8, h10⟩
      · -- operation 3
        obtain rfl := h2.out (by simp only [haf])
        subst hun
        go_simp
        refine (HT3.out _).mono ?_
        rintro e W' ⟨rfl, hb⟩
        have hkept := fun kb (hk : kb < W.heap.size) => hb.block kb hk
        exact hK _ _ ⟨b0, b1, b2, true, b4, b5, b6, b7, b8, b9, b10, v30, v31, .agg #[.int .i64 X, .int .i64 Y], .agg #[.int .i64 X, .int .i64 Y], v34, v29, v35, v36, v11, v12, rfl, (by simp only [Act.put, List.setIfInBounds_toArray, List.set_cons_zero, List.set_cons_succ]), hB.trans (hb.mono hB.size), h0, h1, Lib.hid (fun _ => rfl), Lib.hid (fun _ => rfl), h4, h5, h6, h7, Lib.hid (fun hx => by obtain ⟨kb, e1, e2, e3⟩ := h8.out hx; exact ⟨kb, e1, e2, (hkept kb (Array.getElem?_eq_some_iff.1 e3).1).trans e3⟩), n8, h10⟩
      · -- operation 4
        obtain rfl := h0.out (by simp only [haf])
        obtain rfl := h1.out (by simp only [haf])
        obtain rfl := h3.out (by simp only [haf])
        subst hun
        go_simp
        refine (HCI.out _ hB).mono ?_
        rintro e W' ⟨rfl, hb⟩
        have hkept := fun kb (hk : kb < W.heap.size) => hb.block kb hk
        exact hK _ _ ⟨b0, b1, b2, b3, true, b5, b6, b7, b8, b9, b10, .agg #[.slice (some ⟨g7, 0, none⟩) ss.length cap7], .int .i64 k, v32, .agg #[.int .i64 X, .int .i64 Y], .tuple #[.agg #[.int .i64 p, .int .i64 q], .bool ok], v29, v35, v36, v11, v12, rfl, (by simp only [Act.put, List.setIfInBounds_toArray, List.set_cons_zero, List.set_cons_succ]), hB.trans (hb.mono hB.size), Lib.hid (fun _ => rfl), Lib.hid (fun _ => rfl), h2, Lib.hid (fun _ => rfl), Lib.hid (fun _ => rfl), h5, h6, h7, Lib.hid (fun hx => by obtain ⟨kb, e1, e2, e3⟩ := h8.out hx; exact ⟨kb, e1, e2, (hkept kb (Array.getElem?_eq_some_iff.1 e3).1).trans e3⟩), n8, h10⟩
      · -- operation 5
        obtain rfl := h4.out (by simp only [haf])
        subst hun
        go_simp
        exact hK _ _ ⟨b0, b1, b2, b3, b4, true, b6, b7, b8, b9, b10, v30, v31, v32, v33, .tuple #[.agg #[.int .i64 p, .int .i64 q], .bool ok], .tuple #[.agg #[.int .i64 p, .int .i64 q], .bool ok], v35, v36, v11, v12, rfl, (by simp only [Act.put, List.setIfInBounds_toArray, List.set_cons_zero, List.set_cons_succ]), hB, h0, h1, h2, h3, Lib.hid (fun _ => rfl), Lib.hid (fun _ => rfl), h6, h7, h8, n8, h10⟩
      · -- operation 6
        obtain rfl := h5.out (by simp only [haf])
        subst hun
        go_simp
        exact hK _ _ ⟨b0, b1, b2, b3, b4, b5, true, b7, b8, b9, b10, v30, v31, v32, v33, v34, .tuple #[.agg #[.int .i64 p, .int .i64 q], .bool ok], .agg #[.int .i64 p, .int .i64 q], v36, v11, v12, rfl, (by simp only [Act.put, List.setIfInBounds_toArray, List.set_cons_zero, List.set_cons_succ]), hB, h0, h1, h2, h3, h4, Lib.hid (fun _ => rfl), Lib.hid (fun _ => rfl), h7, h8, n8, h10⟩
      · -- operation 7
        obtain rfl := h5.out (by simp only [haf])
        subst hun
        go_simp
        exact hK _ _ ⟨b0, b1, b2, b3, b4, b5, b6, true, b8, b9, b10, v30, v31, v32, v33, v34, .tuple #[.agg #[.int .i64 p, .int .i64 q], .bool ok], v35, .bool ok, v11, v12, rfl, (by simp only [Act.put, List.setIfInBounds_toArray, List.set_cons_zero, List.set_cons_succ]), hB, h0, h1, h2, h3, h4, Lib.hid (fun _ => rfl), h6, Lib.hid (fun _ => rfl), h8, n8, h10⟩
      · -- operation 8
        subst hun
        have hbs : b9 = false := n8.out rfl
        subst hbs
        go_simp
        have hkept := fun kb (hk : kb < W.heap.size) => Below.heap_alloc W (.cells #[.int .i64 0, .int .i64 0] 31) kb hk
        have hb := Joins.below_alloc1 W (.cells #[.int .i64 0, .int .i64 0] 31)
        exact hK _ _ ⟨b0, b1, b2, b3, b4, b5, b6, b7, true, false, b10, v30, v31, v32, v33, v34, v29, v35, v36, .pointer (some ⟨W.heap.size, 0, none⟩), v12, rfl, (by simp only [Act.put, List.setIfInBounds_toArray, List.set_cons_zero, List.set_cons_succ]), hB.alloc hB.size _, h0, h1, h2, h3, h4, h5, h6, h7, Lib.hid (fun _ => ⟨_, rfl, hB.size, heap_alloc_last W _⟩), Lib.hid (fun hf => by cases hf), h10⟩
      · -- operation 9
        obtain rfl := h6.out (by simp only [haf])
        obtain ⟨mb, rfl, hmb, hm2⟩ := h8.out (by simp only [haf])
        subst hun
        have hv2 : Var2 W mb (0, 0) := by show W.heap[mb]? = _; simpa using hm2
        have hq1 := Joins.block_setCell hv2 (.int .i64 p) (i := 0)
        have c0 := hv2.c0
        have c1 := hv2.c1
        have f0 := two_free hv2 0
        have f1 := two_free hv2 1
        have c1' : (W.setCell ⟨mb, 0, none⟩ (.int .i64 p)).cell? ⟨mb, 1, none⟩ = some (.int .i64 0) := by rw [Joins.cell_of_block hq1 1]; rfl
        have f1' : (W.setCell ⟨mb, 0, none⟩ (.int .i64 p)).frozen? ⟨mb, 1, none⟩ = false := Joins.unfrozen_of_block hq1 1
        have hnew := hv2.upd p q
        have hBn := (hB.setCell (p := ⟨mb, 0, none⟩) hmb (.int .i64 p)).setCell (p := ⟨mb, 1, none⟩) hmb (.int .i64 q)
        have hoth : ∀ kb, kb ≠ mb → ((W.setCell ⟨mb, 0, none⟩ (.int .i64 p)).setCell ⟨mb, 1, none⟩ (.int .i64 q)).heap[kb]? = W.heap[kb]? := fun kb hk => (Below.heap_setCell _ _ _ _ hk).trans (Below.heap_setCell _ _ _ _ hk)
        go_simp
        exact hK _ _ ⟨b0, b1, b2, b3, b4, b5, b6, b7, b8, true, b10, v30, v31, v32, v33, v34, v29, .agg #[.int .i64 p, .int .i64 q], v36, .pointer (some ⟨mb, 0, none⟩), v12, rfl, (by simp only [Act.put, List.setIfInBounds_toArray, List.set_cons_zero, List.set_cons_succ]), hBn, h0, h1, h2, h3, h4, h5, Lib.hid (fun _ => rfl), h7, Lib.hid (fun _ => ⟨mb, rfl, hmb, hnew⟩), Lib.hid (fun hf => absurd (show false = true from hf.symm.trans (by simp only [haf])) (by decide)), h10⟩
      · -- operation 10
        obtain rfl := h7.out (by simp only [haf])
        subst hun
        go_simp
        exact hK _ _ ⟨b0, b1, b2, b3, b4, b5, b6, b7, b8, b9, true, v30, v31, v32, v33, v34, v29, v35, .bool ok, v11, .bool ok, rfl, (by simp only [Act.put, List.setIfInBounds_toArray, List.set_cons_zero, List.set_cons_succ]), hB, h0, h1, h2, h3, h4, h5, h6, Lib.hid (fun _ => rfl), h8, n8, Lib.hid (fun _ => rfl)⟩
    intro L A W hI hr
    obtain ⟨b0, b1, b2, b3, b4, b5, b6, b7, b8, b9, b10, v30, v31, v32, v33, v34, v29, v35, v36, v11, v12, rfl, rfl, hB, h0, h1, h2, h3, h4, h5, h6, h7, h8, n8, h10⟩ := hI
    have d0 := ready_done hr 0 _ rfl (by simp [Region.binds])
    have d1 := ready_done hr 1 _ rfl (by simp [Region.binds])
    have d2 := ready_done hr 2 _ rfl (by simp [Region.binds])
    have d8 := ready_done hr 8 _ rfl (by simp [Region.binds])
    simp at d0 d1 d2 d8
    subst d0 d1 d2 d8
    have d3 := ready_done hr 3 _ rfl (by simp [Region.binds])
    simp at d3
    subst d3
    have d4 := ready_done hr 4 _ rfl (by simp [Region.binds])
    simp at d4
    subst d4
    have d5 := ready_done hr 5 _ rfl (by simp [Region.binds])
    simp at d5
    subst d5
    have d6 := ready_done hr 6 _ rfl (by simp [Region.binds])
    have d7 := ready_done hr 7 _ rfl (by simp [Region.binds])
    simp at d6 d7
    subst d6 d7
    have d9 := ready_done hr 9 _ rfl (by simp [Region.binds])
    simp at d9
    subst d9
    have d10 := ready_done hr 10 _ rfl (by simp [Region.binds])
    simp at d10
    subst d10
    obtain rfl := h0.out rfl
    obtain rfl := h1.out rfl
    obtain rfl := h2.out rfl
    obtain rfl := h3.out rfl
    obtain rfl := h4.out rfl
    obtain rfl := h5.out rfl
    obtain rfl := h6.out rfl
    obtain rfl := h7.out rfl
    obtain ⟨mb8, rfl, hmb8, hm8⟩ := h8.out rfl
    obtain rfl := h10.out rfl
    simp only [Act.put, List.setIfInBounds_toArray, List.set_cons_zero, List.set_cons_succ]
    clear hr h0 h1 h2 h3 h4 h5 h6 h7 h8 n8 h10
    have HQ2 : Hid (Var2 W mb8 (p, q)) := hm8
    have HQ10 := Lib.hid (HQ7.out.below hB)
    have V10 := Lib.hid (V7.out.trans (hB.mono V7.out.size))
    have B10 := Lib.hid (B7.out.trans (hB.mono B7.out.size))
    have Q10 := Lib.hid hB
    have p0 := HQ10.out.c0
    have p1 := HQ10.out.c1
    have p2 := HQ2.out.c0
    have p3 := HQ2.out.c1
    clear hB hm8 HX HCI HT3 HQ7
    go_wp2_with fail
    refine (CQ.out _).mono ?_
    rintro e w10 ⟨rfl, hb10⟩
    have V10 := Lib.hid (V10.out.trans (hb10.mono V10.out.size))
    have B10 := Lib.hid (B10.out.trans (hb10.mono B10.out.size))
    have Q10 := Lib.hid (Q10.out.trans (hb10.mono Q10.out.size))
    clear hb10 p0 p1 p2 p3 CQ HQ2 HQ10
    have HX : Hid (∀ W, Below w10.heap.size w10 W → W.cell? ⟨w.heap.size, 0, none⟩ = some u ∧ W.cell? ⟨m7, 0, none⟩ = some (.slice (some ⟨g7, 0, none⟩) ss.length cap7)) := fun W hb => ⟨(HV0.out W (V10.out.trans (hb.mono V10.out.size))).1, (HC1.out W (Q10.out.trans (hb.mono Q10.out.size))).1⟩
    have HT1 : Hid (∀ W, Below w10.heap.size w10 W → Calls Tryd.prog 17 #[.agg #[u]] W (TookPic W ss)) := fun W hb => toPicture_any u ss W hsm (HSL.out _ (B10.out.trans (hb.mono B10.out.size)))
    have HE1 : Hid (∀ W x, Below w10.heap.size w10 W → Sl W x ss → Calls Tryd.prog 20 #[.agg #[.slice (some ⟨g7, 0, none⟩) ss.length cap7], .agg #[x]] W (SaysB true W)) := fun W x hb hx => CE1.out _ x W (HC1.out W (Q10.out.trans (hb.mono Q10.out.size))).2 hx
    cases ok
    all_goals go_wp2_with fail
    all_goals go_region_held3 (fun w' => w'.cell? ⟨w.heap.size, 0, none⟩ = some u ∧ w'.cell? ⟨m7, 0, none⟩ = some (.slice (some ⟨g7, 0, none⟩) ss.length cap7))
      (first | exact HX.out _ (Below.refl _ _) | exact HX.out _ (Below.refl _ _).drew | exact HX.out _ ((Below.refl _ _).drew.trans hb11) | exact HX.out _ (((Below.refl _ _).drew.trans hb11).trans (hb12.mono hb11.size)))
      (first | (go_at_call 17; refine (HT1.out _ (Below.refl _ _).drew).mono ?_; rintro e w11 ⟨g11, cap11, rfl, hown11, hb11⟩) | (go_at_call 20; refine (HE1.out _ _ ((Below.refl _ _).drew.trans hb11) hown11.sl).mono ?_; rintro e w12 ⟨rfl, hb12⟩))
    all_goals have B12 : Hid (Below w.heap.size w w12) := B10.out.trans ((((Below.refl w10.heap.size w10).drew.trans hb11).trans (hb12.mono hb11.size)).mono B10.out.size)
    all_goals clear hb11 hb12 hown11 HX HT1 HE1
    all_goals go_wp2
    all_goals go_ret
    all_goals exact ⟨rfl, B12.out⟩
end Go.Proofs.YtakaglbbcaplhaaDoor
