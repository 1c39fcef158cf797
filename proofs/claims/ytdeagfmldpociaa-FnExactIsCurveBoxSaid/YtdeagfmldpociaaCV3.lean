/- Contracts of single functions, and plain lemmas, on which the exact laws of this seat rest; each holds under the conditions that it states. -/
import Derived.Test.YtdeagfmldpociaaCV2
import Derived.Test.YtdeagfmldpociaaQh
namespace Go.Proofs.Ytdeagfmldpociaa
set_option linter.unusedVariables false
set_option linter.unusedSimpArgs false
open Go.RowKit
attribute [local go_sem] Oper.semAt_some

set_option maxHeartbeats 4000000 in
set_option maxRecDepth 100000 in
theorem law_IsCurveBox (n ax ay bx b_y : Int) (w : World) :
    Calls Try.prog 3 #[.int .i64 n, .agg #[.int .i64 ax, .int .i64 ay], .agg #[.int .i64 bx, .int .i64 b_y]] w fun e w' => e = .returned (.bool true) ∧ Below w.heap.size w w' := by
  have CT : Hid (∀ X Y W, Calls Try.prog 6 #[.agg #[.int .i64 X, .int .i64 Y]] W (fun e w' => e = .returned (.agg #[.int .i64 X, .int .i64 Y]) ∧ Below W.heap.size W w')) := fun X Y W => toSpot_any X Y W
  have CS := Lib.hid (fun W => spec_CurveBox n ax ay bx b_y W)
  have CI := Lib.hid (fun W => impl_CurveBox n ax ay bx b_y W)
  unfold SaysB at CS CI
  obtain ⟨W0, hW0⟩ : ∃ W0, ((w.alloc (.cells #[.int .i64 ax, .int .i64 ay] 23)).alloc (.cells #[.int .i64 bx, .int .i64 b_y] 23)) = W0 := ⟨_, rfl⟩
  have b0 : Below w.heap.size w W0 := by rw [← hW0]; exact Joins.below_alloc2 _ _ _
  have hs0 : W0.heap.size = w.heap.size + 1 + 1 := by rw [← hW0]; simp
  have hp0 : W0.heap[w.heap.size]? = some (.cells #[.int .i64 ax, .int .i64 ay] 23 (0, 0)) := by
    rw [← hW0, Below.heap_alloc _ _ _ (by simp)]; exact heap_alloc_last w _
  have hr0 : W0.heap[w.heap.size + 1]? = some (.cells #[.int .i64 bx, .int .i64 b_y] 23 (0, 0)) := by
    rw [← hW0]
    exact heap_alloc2_new _ _ _
  have HX : Hid (∀ W, Below W0.heap.size W0 W → W.cell? ⟨w.heap.size, 0, none⟩ = some (.int .i64 ax) ∧ W.cell? ⟨w.heap.size, 1, none⟩ = some (.int .i64 ay) ∧ W.cell? ⟨w.heap.size + 1, 0, none⟩ = some (.int .i64 bx) ∧ W.cell? ⟨w.heap.size + 1, 1, none⟩ = some (.int .i64 b_y)) := fun W hb =>
    ⟨cell_kept hb (by rw [Joins.cell_of_block hp0 0]; rfl), cell_kept hb (by rw [Joins.cell_of_block hp0 1]; rfl), cell_kept hb (by rw [Joins.cell_of_block hr0 0]; rfl), cell_kept hb (by rw [Joins.cell_of_block hr0 1]; rfl)⟩
  have B0 := Lib.hid b0
  have HW := Lib.hid hW0
  obtain ⟨r, hr⟩ : ∃ d, boxOk n ax ay bx b_y = d := ⟨_, rfl⟩
  rw [hr] at CS CI
  clear hW0 hp0 hr0 b0 hs0 hr
  go_enter Try.func3, Try.ntmps3
  go_upto_region 1 with fail
  rw [HW.out]
  refine wp_region_inv_at (by kernel_rfl) (fun A0 L A W => ∃ (b0 b1 b2 b3 b4 b5 b6 : Bool) (v9 v10 v11 v12 v13 v14 v7 : Value), L = #[b0, b1, b2, b3, b4, b5, b6] ∧ A = (((((((A0.put (some 9) v9).put (some 10) v10).put (some 11) v11).put (some 12) v12).put (some 13) v13).put (some 14) v14).put (some 7) v7) ∧ (Below W0.heap.size W0 W) ∧ Hid (b0 = true → v9 = .int .i64 n) ∧ Hid (b1 = true → v10 = .agg #[.int .i64 ax, .int .i64 ay]) ∧ Hid (b2 = true → v11 = .agg #[.int .i64 ax, .int .i64 ay]) ∧ Hid (b3 = true → v12 = .agg #[.int .i64 bx, .int .i64 b_y]) ∧ Hid (b4 = true → v13 = .agg #[.int .i64 bx, .int .i64 b_y]) ∧ Hid (b5 = true → v14 = .bool r) ∧ Hid (b6 = true → v7 = .bool r)) ?_ ?_ ?_
  · intro A0
    refine ⟨false, false, false, false, false, false, false, A0.tmps.getD 9 undef, A0.tmps.getD 10 undef, A0.tmps.getD 11 undef, A0.tmps.getD 12 undef, A0.tmps.getD 13 undef, A0.tmps.getD 14 undef, A0.tmps.getD 7 undef, rfl, (by simp only [put_self]), (Below.refl _ _).drew, Lib.hid (fun hf => by cases hf), Lib.hid (fun hf => by cases hf), Lib.hid (fun hf => by cases hf), Lib.hid (fun hf => by cases hf), Lib.hid (fun hf => by cases hf), Lib.hid (fun hf => by cases hf), Lib.hid (fun hf => by cases hf)⟩
  · intro L A W hI i hi o ho K' hK
    have hlt := (ready_left hi).1
    have hun := (ready_left hi).2
    have haf := ready_after hi ho
    clear hi
    obtain ⟨b0, b1, b2, b3, b4, b5, b6, v9, v10, v11, v12, v13, v14, v7, rfl, rfl, hB, h0, h1, h2, h3, h4, h5, h6⟩ := hI
    have hc : i = 0 ∨ i = 1 ∨ i = 2 ∨ i = 3 ∨ i = 4 ∨ i = 5 ∨ i = 6 := by
      simp at hlt
      omega
    have q0 := (HX.out W (hB)).1
    have q1 := (HX.out W (hB)).2.1
    have q2 := (HX.out W (hB)).2.2.1
    have q3 := (HX.out W (hB)).2.2.2
    rcases hc with rfl | rfl | rfl | rfl | rfl | rfl | rfl
    all_goals (obtain rfl := Option.some.inj ho; clear ho; simp [Region.binds] at haf hun; (try simp only [List.getElem_toArray, List.getElem_cons_zero, List.getElem_cons_succ]); simp only [Act.put, List.setIfInBounds_toArray, List.set_cons_zero, List.set_cons_succ])
    · -- operation 0
      replace hK := Lib.hid hK
      subst hun
      go_simp
      exact hK.out _ _ ⟨true, b1, b2, b3, b4, b5, b6, .int .i64 n, v10, v11, v12, v13, v14, v7, rfl, (by simp only [Act.put, List.setIfInBounds_toArray, List.set_cons_zero, List.set_cons_succ]), hB, Lib.hid (fun _ => rfl), h1, h2, h3, h4, h5, h6⟩
    · -- operation 1
      replace hK := Lib.hid hK
      subst hun
      go_simp
      exact hK.out _ _ ⟨b0, true, b2, b3, b4, b5, b6, v9, .agg #[.int .i64 ax, .int .i64 ay], v11, v12, v13, v14, v7, rfl, (by simp only [Act.put, List.setIfInBounds_toArray, List.set_cons_zero, List.set_cons_succ]), hB, h0, Lib.hid (fun _ => rfl), h2, h3, h4, h5, h6⟩
    · -- operation 2
      replace hK := Lib.hid hK
      obtain rfl := h1.out (by simp only [haf])
      subst hun
      go_simp
      refine (CT.out ax ay W).mono ?_
      rintro e W' ⟨rfl, hb⟩
      have hkept := fun kb (hk : kb < W.heap.size) => hb.block kb hk
      exact hK.out _ _ ⟨b0, b1, true, b3, b4, b5, b6, v9, .agg #[.int .i64 ax, .int .i64 ay], .agg #[.int .i64 ax, .int .i64 ay], v12, v13, v14, v7, rfl, (by simp only [Act.put, List.setIfInBounds_toArray, List.set_cons_zero, List.set_cons_succ]), hB.trans (hb.mono hB.size), h0, Lib.hid (fun _ => rfl), Lib.hid (fun _ => rfl), h3, h4, h5, h6⟩
    · -- operation 3
      replace hK := Lib.hid hK
      subst hun
      go_simp
      exact hK.out _ _ ⟨b0, b1, b2, true, b4, b5, b6, v9, v10, v11, .agg #[.int .i64 bx, .int .i64 b_y], v13, v14, v7, rfl, (by simp only [Act.put, List.setIfInBounds_toArray, List.set_cons_zero, List.set_cons_succ]), hB, h0, h1, h2, Lib.hid (fun _ => rfl), h4, h5, h6⟩
    · -- operation 4
      replace hK := Lib.hid hK
      obtain rfl := h3.out (by simp only [haf])
      subst hun
      go_simp
      refine (CT.out bx b_y W).mono ?_
      rintro e W' ⟨rfl, hb⟩
      have hkept := fun kb (hk : kb < W.heap.size) => hb.block kb hk
      exact hK.out _ _ ⟨b0, b1, b2, b3, true, b5, b6, v9, v10, v11, .agg #[.int .i64 bx, .int .i64 b_y], .agg #[.int .i64 bx, .int .i64 b_y], v14, v7, rfl, (by simp only [Act.put, List.setIfInBounds_toArray, List.set_cons_zero, List.set_cons_succ]), hB.trans (hb.mono hB.size), h0, h1, h2, Lib.hid (fun _ => rfl), Lib.hid (fun _ => rfl), h5, h6⟩
    · -- operation 5
      replace hK := Lib.hid hK
      obtain rfl := h0.out (by simp only [haf])
      obtain rfl := h2.out (by simp only [haf])
      obtain rfl := h4.out (by simp only [haf])
      subst hun
      go_simp
      refine (CS.out W).mono ?_
      rintro e W' ⟨rfl, hb⟩
      have hkept := fun kb (hk : kb < W.heap.size) => hb.block kb hk
      exact hK.out _ _ ⟨b0, b1, b2, b3, b4, true, b6, .int .i64 n, v10, .agg #[.int .i64 ax, .int .i64 ay], v12, .agg #[.int .i64 bx, .int .i64 b_y], .bool r, v7, rfl, (by simp only [Act.put, List.setIfInBounds_toArray, List.set_cons_zero, List.set_cons_succ]), hB.trans (hb.mono hB.size), Lib.hid (fun _ => rfl), h1, Lib.hid (fun _ => rfl), h3, Lib.hid (fun _ => rfl), Lib.hid (fun _ => rfl), h6⟩
    · -- operation 6
      replace hK := Lib.hid hK
      obtain rfl := h5.out (by simp only [haf])
      subst hun
      go_simp
      exact hK.out _ _ ⟨b0, b1, b2, b3, b4, b5, true, v9, v10, v11, v12, v13, .bool r, .bool r, rfl, (by simp only [Act.put, List.setIfInBounds_toArray, List.set_cons_zero, List.set_cons_succ]), hB, h0, h1, h2, h3, h4, Lib.hid (fun _ => rfl), Lib.hid (fun _ => rfl)⟩
  intro L A W hI hr
  obtain ⟨b0, b1, b2, b3, b4, b5, b6, v9, v10, v11, v12, v13, v14, v7, rfl, rfl, hB, h0, h1, h2, h3, h4, h5, h6⟩ := hI
  have d0 := ready_done hr 0 _ rfl (by simp [Region.binds])
  have d1 := ready_done hr 1 _ rfl (by simp [Region.binds])
  have d3 := ready_done hr 3 _ rfl (by simp [Region.binds])
  simp at d0 d1 d3
  subst d0 d1 d3
  have d2 := ready_done hr 2 _ rfl (by simp [Region.binds])
  simp at d2
  subst d2
  have d4 := ready_done hr 4 _ rfl (by simp [Region.binds])
  simp at d4
  subst d4
  have d5 := ready_done hr 5 _ rfl (by simp [Region.binds])
  simp at d5
  subst d5
  have d6 := ready_done hr 6 _ rfl (by simp [Region.binds])
  simp at d6
  subst d6
  obtain rfl := h0.out rfl
  obtain rfl := h1.out rfl
  obtain rfl := h2.out rfl
  obtain rfl := h3.out rfl
  obtain rfl := h4.out rfl
  obtain rfl := h5.out rfl
  obtain rfl := h6.out rfl
  simp only [Act.put, List.setIfInBounds_toArray, List.set_cons_zero, List.set_cons_succ]
  clear hr h0 h1 h2 h3 h4 h5 h6
  revert hB
  generalize W = Wa
  intro hB
  have HB1 := Lib.hid hB
  clear hB
  go_upto_region 2 with fail
  refine wp_region_inv_at (by kernel_rfl) (fun A0 L A W => ∃ (b0 b1 b2 b3 b4 b5 b6 : Bool) (v15 v16 v17 v18 v19 v20 v8 : Value), L = #[b0, b1, b2, b3, b4, b5, b6] ∧ A = (((((((A0.put (some 15) v15).put (some 16) v16).put (some 17) v17).put (some 18) v18).put (some 19) v19).put (some 20) v20).put (some 8) v8) ∧ (Below Wa.heap.size Wa W) ∧ Hid (b0 = true → v15 = .int .i64 n) ∧ Hid (b1 = true → v16 = .agg #[.int .i64 ax, .int .i64 ay]) ∧ Hid (b2 = true → v17 = .agg #[.int .i64 ax, .int .i64 ay]) ∧ Hid (b3 = true → v18 = .agg #[.int .i64 bx, .int .i64 b_y]) ∧ Hid (b4 = true → v19 = .agg #[.int .i64 bx, .int .i64 b_y]) ∧ Hid (b5 = true → v20 = .bool r) ∧ Hid (b6 = true → v8 = .bool r)) ?_ ?_ ?_
  · intro A0
    refine ⟨false, false, false, false, false, false, false, A0.tmps.getD 15 undef, A0.tmps.getD 16 undef, A0.tmps.getD 17 undef, A0.tmps.getD 18 undef, A0.tmps.getD 19 undef, A0.tmps.getD 20 undef, A0.tmps.getD 8 undef, rfl, (by simp only [put_self]), (Below.refl _ _).drew, Lib.hid (fun hf => by cases hf), Lib.hid (fun hf => by cases hf), Lib.hid (fun hf => by cases hf), Lib.hid (fun hf => by cases hf), Lib.hid (fun hf => by cases hf), Lib.hid (fun hf => by cases hf), Lib.hid (fun hf => by cases hf)⟩
  · intro L A W hI i hi o ho K' hK
    have hlt := (ready_left hi).1
    have hun := (ready_left hi).2
    have haf := ready_after hi ho
    clear hi
    obtain ⟨b0, b1, b2, b3, b4, b5, b6, v15, v16, v17, v18, v19, v20, v8, rfl, rfl, hB, h0, h1, h2, h3, h4, h5, h6⟩ := hI
    have hc : i = 0 ∨ i = 1 ∨ i = 2 ∨ i = 3 ∨ i = 4 ∨ i = 5 ∨ i = 6 := by
      simp at hlt
      omega
    have q0 := (HX.out W (HB1.out.trans (hB.mono HB1.out.size))).1
    have q1 := (HX.out W (HB1.out.trans (hB.mono HB1.out.size))).2.1
    have q2 := (HX.out W (HB1.out.trans (hB.mono HB1.out.size))).2.2.1
    have q3 := (HX.out W (HB1.out.trans (hB.mono HB1.out.size))).2.2.2
    rcases hc with rfl | rfl | rfl | rfl | rfl | rfl | rfl
    all_goals (obtain rfl := Option.some.inj ho; clear ho; simp [Region.binds] at haf hun; (try simp only [List.getElem_toArray, List.getElem_cons_zero, List.getElem_cons_succ]); simp only [Act.put, List.setIfInBounds_toArray, List.set_cons_zero, List.set_cons_succ])
    · -- operation 0
      replace hK := Lib.hid hK
      subst hun
      go_simp
      exact hK.out _ _ ⟨true, b1, b2, b3, b4, b5, b6, .int .i64 n, v16, v17, v18, v19, v20, v8, rfl, (by simp only [Act.put, List.setIfInBounds_toArray, List.set_cons_zero, List.set_cons_succ]), hB, Lib.hid (fun _ => rfl), h1, h2, h3, h4, h5, h6⟩
    · -- operation 1
      replace hK := Lib.hid hK
      subst hun
      go_simp
      exact hK.out _ _ ⟨b0, true, b2, b3, b4, b5, b6, v15, .agg #[.int .i64 ax, .int .i64 ay], v17, v18, v19, v20, v8, rfl, (by simp only [Act.put, List.setIfInBounds_toArray, List.set_cons_zero, List.set_cons_succ]), hB, h0, Lib.hid (fun _ => rfl), h2, h3, h4, h5, h6⟩
    · -- operation 2
      replace hK := Lib.hid hK
      obtain rfl := h1.out (by simp only [haf])
      subst hun
      go_simp
      refine (CT.out ax ay W).mono ?_
      rintro e W' ⟨rfl, hb⟩
      have hkept := fun kb (hk : kb < W.heap.size) => hb.block kb hk
      exact hK.out _ _ ⟨b0, b1, true, b3, b4, b5, b6, v15, .agg #[.int .i64 ax, .int .i64 ay], .agg #[.int .i64 ax, .int .i64 ay], v18, v19, v20, v8, rfl, (by simp only [Act.put, List.setIfInBounds_toArray, List.set_cons_zero, List.set_cons_succ]), hB.trans (hb.mono hB.size), h0, Lib.hid (fun _ => rfl), Lib.hid (fun _ => rfl), h3, h4, h5, h6⟩
    · -- operation 3
      replace hK := Lib.hid hK
      subst hun
      go_simp
      exact hK.out _ _ ⟨b0, b1, b2, true, b4, b5, b6, v15, v16, v17, .agg #[.int .i64 bx, .int .i64 b_y], v19, v20, v8, rfl, (by simp only [Act.put, List.setIfInBounds_toArray, List.set_cons_zero, List.set_cons_succ]), hB, h0, h1, h2, Lib.hid (fun _ => rfl), h4, h5, h6⟩
    · -- operation 4
      replace hK := Lib.hid hK
      obtain rfl := h3.out (by simp only [haf])
      subst hun
      go_simp
      refine (CT.out bx b_y W).mono ?_
      rintro e W' ⟨rfl, hb⟩
      have hkept := fun kb (hk : kb < W.heap.size) => hb.block kb hk
      exact hK.out _ _ ⟨b0, b1, b2, b3, true, b5, b6, v15, v16, v17, .agg #[.int .i64 bx, .int .i64 b_y], .agg #[.int .i64 bx, .int .i64 b_y], v20, v8, rfl, (by simp only [Act.put, List.setIfInBounds_toArray, List.set_cons_zero, List.set_cons_succ]), hB.trans (hb.mono hB.size), h0, h1, h2, Lib.hid (fun _ => rfl), Lib.hid (fun _ => rfl), h5, h6⟩
    · -- operation 5
      replace hK := Lib.hid hK
      obtain rfl := h0.out (by simp only [haf])
      obtain rfl := h2.out (by simp only [haf])
      obtain rfl := h4.out (by simp only [haf])
      subst hun
      go_simp
      refine (CI.out W).mono ?_
      rintro e W' ⟨rfl, hb⟩
      have hkept := fun kb (hk : kb < W.heap.size) => hb.block kb hk
      exact hK.out _ _ ⟨b0, b1, b2, b3, b4, true, b6, .int .i64 n, v16, .agg #[.int .i64 ax, .int .i64 ay], v18, .agg #[.int .i64 bx, .int .i64 b_y], .bool r, v8, rfl, (by simp only [Act.put, List.setIfInBounds_toArray, List.set_cons_zero, List.set_cons_succ]), hB.trans (hb.mono hB.size), Lib.hid (fun _ => rfl), h1, Lib.hid (fun _ => rfl), h3, Lib.hid (fun _ => rfl), Lib.hid (fun _ => rfl), h6⟩
    · -- operation 6
      replace hK := Lib.hid hK
      obtain rfl := h5.out (by simp only [haf])
      subst hun
      go_simp
      exact hK.out _ _ ⟨b0, b1, b2, b3, b4, b5, true, v15, v16, v17, v18, v19, .bool r, .bool r, rfl, (by simp only [Act.put, List.setIfInBounds_toArray, List.set_cons_zero, List.set_cons_succ]), hB, h0, h1, h2, h3, h4, Lib.hid (fun _ => rfl), Lib.hid (fun _ => rfl)⟩
  intro L A W hI hr
  obtain ⟨b0, b1, b2, b3, b4, b5, b6, v15, v16, v17, v18, v19, v20, v8, rfl, rfl, hB, h0, h1, h2, h3, h4, h5, h6⟩ := hI
  have d0 := ready_done hr 0 _ rfl (by simp [Region.binds])
  have d1 := ready_done hr 1 _ rfl (by simp [Region.binds])
  have d3 := ready_done hr 3 _ rfl (by simp [Region.binds])
  simp at d0 d1 d3
  subst d0 d1 d3
  have d2 := ready_done hr 2 _ rfl (by simp [Region.binds])
  simp at d2
  subst d2
  have d4 := ready_done hr 4 _ rfl (by simp [Region.binds])
  simp at d4
  subst d4
  have d5 := ready_done hr 5 _ rfl (by simp [Region.binds])
  simp at d5
  subst d5
  have d6 := ready_done hr 6 _ rfl (by simp [Region.binds])
  simp at d6
  subst d6
  obtain rfl := h0.out rfl
  obtain rfl := h1.out rfl
  obtain rfl := h2.out rfl
  obtain rfl := h3.out rfl
  obtain rfl := h4.out rfl
  obtain rfl := h5.out rfl
  obtain rfl := h6.out rfl
  simp only [Act.put, List.setIfInBounds_toArray, List.set_cons_zero, List.set_cons_succ]
  clear hr h0 h1 h2 h3 h4 h5 h6
  have HB9 := Lib.hid (B0.out.trans ((HB1.out.trans (hB.mono HB1.out.size)).mono B0.out.size))
  clear hB
  cases r
  all_goals go_wp2
  all_goals go_ret
  all_goals exact ⟨rfl, HB9.out⟩
end Go.Proofs.Ytdeagfmldpociaa
