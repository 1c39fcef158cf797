/- Contracts of single functions, and plain lemmas, on which the exact laws of this seat rest; each holds under the conditions that it states. -/
import Derived.Test.YtdeagfmldpociaaDoorCV6
import Derived.Test.YtdeagfmldpociaaDoorRI
namespace Go.Proofs.YtdeagfmldpociaaDoor
set_option linter.unusedVariables false
set_option linter.unusedSimpArgs false
open Go.RowKit
attribute [local go_sem] Oper.semAt_some

set_option maxHeartbeats 2000000 in
set_option maxRecDepth 100000 in
theorem requiredIndex_yes (c n x y : Nat) (w : World) (hc : c < 4) (hn : n ≤ 4) (hx : x < 2 ^ n) (hy : y < 2 ^ n) (hQ : QvP w) : Calls Tryd.prog 57 #[.agg #[.int .i64 (c : Int), .int .i64 (n : Int)], .agg #[.int .i64 (x : Int), .int .i64 (y : Int)]] w (fun e w' => e = .returned (.int .i64 (ixI c n x y)) ∧ Below w.heap.size w w') := by
  obtain ⟨W0, hW0⟩ : ∃ W0, ((w.alloc (.cells #[.int .i64 (c : Int), .int .i64 (n : Int)] 73)).alloc (.cells #[.int .i64 (x : Int), .int .i64 (y : Int)] 26)) = W0 := ⟨_, rfl⟩
  have ts := ts_start w c n x y
  rw [hW0] at ts
  have HX := Lib.hid ts.cells
  have HB0 := Lib.hid ts.b
  have HW := Lib.hid hW0
  have CX : Hid (∀ W, Below W0.heap.size W0 W → Calls Tryd.prog 111 #[.agg #[.int .i64 (c : Int), .int .i64 (n : Int)], .agg #[.int .i64 (x : Int), .int .i64 (y : Int)]] W (fun e w' => e = .returned (.int .i64 (ixI c n x y)) ∧ Below W.heap.size W w')) := fun W hb => index_any c n x y W hc hn hx hy ((hQ.below ts.b).below hb)
  have CQ := Lib.hid (fun W => square_any (c : Int) (n : Int) W (by omega) (by omega))
  have CH : Hid (∀ W, Calls Tryd.prog 110 #[.agg (mcells (sd (n : Int)) (sd (n : Int)) (fun _ => 0)), .int .i64 (x : Int), .int .i64 (y : Int)] W (SaysB true W)) := fun W => by
    have := has_any _ (sd (n : Int)) (sd (n : Int)) (fun _ => 0) (x : Int) (y : Int) W ⟨rfl⟩
    rwa [show hasB (sd (n : Int)) (sd (n : Int)) (x : Int) (y : Int) = true from by
      rw [sd_nat]
      unfold hasB
      rw [decide_eq_true (show (0 : Int) ≤ (x : Int) from by omega), decide_eq_true (show (0 : Int) ≤ (y : Int) from by omega), decide_eq_true (show (x : Int) < ((2 ^ n : Nat) : Int) from by omega), decide_eq_true (show (y : Int) < ((2 ^ n : Nat) : Int) from by omega)]
      rfl] at this
  obtain ⟨v, hv⟩ : ∃ v, ixI c n x y = v := ⟨_, rfl⟩
  obtain ⟨C, hC⟩ : ∃ C, mcells (sd (n : Int)) (sd (n : Int)) (fun _ => 0) = C := ⟨_, rfl⟩
  rw [hv] at CX ⊢
  rw [hC] at CQ CH
  unfold SaysB at CH
  clear hW0 ts hv hQ hC hx hy
  obtain ⟨xi, hxi⟩ : ∃ i : Int, (x : Int) = i := ⟨_, rfl⟩
  obtain ⟨yi, hyi⟩ : ∃ i : Int, (y : Int) = i := ⟨_, rfl⟩
  rw [hxi, hyi] at HX CH CX HW ⊢
  clear hxi hyi
  go_enter Tryd.func57, Tryd.ntmps57
  go_upto_region 1 with fail
  rw [HW.out]
  refine wp_region_inv_at (by kernel_rfl) (fun A0 L A W => ∃ (b0 b1 b2 b3 b4 b5 b6 b7 : Bool) (v5 v6 v7 v8 v9 v10 v11 v12 : Value), L = #[b0, b1, b2, b3, b4, b5, b6, b7] ∧ A = ((((((((A0.put (some 5) v5).put (some 6) v6).put (some 7) v7).put (some 8) v8).put (some 9) v9).put (some 10) v10).put (some 11) v11).put (some 12) v12) ∧ (Below W0.heap.size W0 W) ∧ Hid (b0 = true → v5 = .agg #[.int .i64 (c : Int), .int .i64 (n : Int)]) ∧ Hid (b1 = true → v6 = .agg C) ∧ Hid (b2 = true → v7 = .pointer (some ⟨w.heap.size + 1, 0, none⟩)) ∧ Hid (b3 = true → v8 = .int .i64 xi) ∧ Hid (b4 = true → v9 = .pointer (some ⟨w.heap.size + 1, 1, none⟩)) ∧ Hid (b5 = true → v10 = .int .i64 yi) ∧ Hid (b6 = true → v11 = .bool true) ∧ Hid (b7 = true → v12 = .tuple #[])) ?_ ?_ ?_
  · intro A0
    refine ⟨false, false, false, false, false, false, false, false, A0.tmps.getD 5 undef, A0.tmps.getD 6 undef, A0.tmps.getD 7 undef, A0.tmps.getD 8 undef, A0.tmps.getD 9 undef, A0.tmps.getD 10 undef, A0.tmps.getD 11 undef, A0.tmps.getD 12 undef, rfl, (by simp only [put_self]), (Below.refl _ _).drew, Lib.hid (fun hf => by cases hf), Lib.hid (fun hf => by cases hf), Lib.hid (fun hf => by cases hf), Lib.hid (fun hf => by cases hf), Lib.hid (fun hf => by cases hf), Lib.hid (fun hf => by cases hf), Lib.hid (fun hf => by cases hf), Lib.hid (fun hf => by cases hf)⟩
  · intro L A W hI i hi o ho K' hK
    have hlt := (ready_left hi).1
    have hun := (ready_left hi).2
    have haf := ready_after hi ho
    clear hi
    obtain ⟨b0, b1, b2, b3, b4, b5, b6, b7, v5, v6, v7, v8, v9, v10, v11, v12, rfl, rfl, hB, h0, h1, h2, h3, h4, h5, h6, h7⟩ := hI
    have hc : i = 0 ∨ i = 1 ∨ i = 2 ∨ i = 3 ∨ i = 4 ∨ i = 5 ∨ i = 6 ∨ i = 7 := by
      simp at hlt
      omega
    have q0 := (HX.out W hB).1
    have q1 := (HX.out W hB).2.1
    have q2 := (HX.out W hB).2.2.1
    have q3 := (HX.out W hB).2.2.2
    rcases hc with rfl | rfl | rfl | rfl | rfl | rfl | rfl | rfl
    all_goals (obtain rfl := Option.some.inj ho; clear ho; simp [Region.binds] at haf hun; (try simp only [List.getElem_toArray, List.getElem_cons_zero, List.getElem_cons_succ]); simp only [Act.put, List.setIfInBounds_toArray, List.set_cons_zero, List.set_cons_succ])
    · -- operation 0
      replace hK := Lib.hid hK
      subst hun
      go_simp
      exact hK.out _ _ ⟨true, b1, b2, b3, b4, b5, b6, b7, .agg #[.int .i64 (c : Int), .int .i64 (n : Int)], v6, v7, v8, v9, v10, v11, v12, rfl, (by simp only [Act.put, List.setIfInBounds_toArray, List.set_cons_zero, List.set_cons_succ]), hB, Lib.hid (fun _ => rfl), h1, h2, h3, h4, h5, h6, h7⟩
    · -- operation 1
      replace hK := Lib.hid hK
      obtain rfl := h0.out (by simp only [haf])
      subst hun
      go_simp
      refine (CQ.out W).mono ?_
      rintro e W' ⟨rfl, hb⟩
      have hkept := fun kb (hk : kb < W.heap.size) => hb.block kb hk
      exact hK.out _ _ ⟨b0, true, b2, b3, b4, b5, b6, b7, .agg #[.int .i64 (c : Int), .int .i64 (n : Int)], .agg C, v7, v8, v9, v10, v11, v12, rfl, (by simp only [Act.put, List.setIfInBounds_toArray, List.set_cons_zero, List.set_cons_succ]), hB.trans (hb.mono hB.size), Lib.hid (fun _ => rfl), Lib.hid (fun _ => rfl), h2, h3, h4, h5, h6, h7⟩
    · -- operation 2
      replace hK := Lib.hid hK
      subst hun
      go_simp
      exact hK.out _ _ ⟨b0, b1, true, b3, b4, b5, b6, b7, v5, v6, .pointer (some ⟨w.heap.size + 1, 0, none⟩), v8, v9, v10, v11, v12, rfl, (by simp only [Act.put, List.setIfInBounds_toArray, List.set_cons_zero, List.set_cons_succ]), hB, h0, h1, Lib.hid (fun _ => rfl), h3, h4, h5, h6, h7⟩
    · -- operation 3
      replace hK := Lib.hid hK
      obtain rfl := h2.out (by simp only [haf])
      subst hun
      go_simp
      exact hK.out _ _ ⟨b0, b1, b2, true, b4, b5, b6, b7, v5, v6, .pointer (some ⟨w.heap.size + 1, 0, none⟩), .int .i64 xi, v9, v10, v11, v12, rfl, (by simp only [Act.put, List.setIfInBounds_toArray, List.set_cons_zero, List.set_cons_succ]), hB, h0, h1, Lib.hid (fun _ => rfl), Lib.hid (fun _ => rfl), h4, h5, h6, h7⟩
    · -- operation 4
      replace hK := Lib.hid hK
      subst hun
      go_simp
      exact hK.out _ _ ⟨b0, b1, b2, b3, true, b5, b6, b7, v5, v6, v7, v8, .pointer (some ⟨w.heap.size + 1, 1, none⟩), v10, v11, v12, rfl, (by simp only [Act.put, List.setIfInBounds_toArray, List.set_cons_zero, List.set_cons_succ]), hB, h0, h1, h2, h3, Lib.hid (fun _ => rfl), h5, h6, h7⟩
    · -- operation 5
      replace hK := Lib.hid hK
      obtain rfl := h4.out (by simp only [haf])
      subst hun
      go_simp
      exact hK.out _ _ ⟨b0, b1, b2, b3, b4, true, b6, b7, v5, v6, v7, v8, .pointer (some ⟨w.heap.size + 1, 1, none⟩), .int .i64 yi, v11, v12, rfl, (by simp only [Act.put, List.setIfInBounds_toArray, List.set_cons_zero, List.set_cons_succ]), hB, h0, h1, h2, h3, Lib.hid (fun _ => rfl), Lib.hid (fun _ => rfl), h6, h7⟩
    · -- operation 6
      replace hK := Lib.hid hK
      obtain rfl := h1.out (by simp only [haf])
      obtain rfl := h3.out (by simp only [haf])
      obtain rfl := h5.out (by simp only [haf])
      subst hun
      go_simp
      refine (CH.out W).mono ?_
      rintro e W' ⟨rfl, hb⟩
      have hkept := fun kb (hk : kb < W.heap.size) => hb.block kb hk
      exact hK.out _ _ ⟨b0, b1, b2, b3, b4, b5, true, b7, v5, .agg C, v7, .int .i64 xi, v9, .int .i64 yi, .bool true, v12, rfl, (by simp only [Act.put, List.setIfInBounds_toArray, List.set_cons_zero, List.set_cons_succ]), hB.trans (hb.mono hB.size), h0, Lib.hid (fun _ => rfl), h2, Lib.hid (fun _ => rfl), h4, Lib.hid (fun _ => rfl), Lib.hid (fun _ => rfl), h7⟩
    · -- operation 7
      replace hK := Lib.hid hK
      obtain rfl := h6.out (by simp only [haf])
      subst hun
      go_simp
      refine (require_yes W).mono ?_
      rintro e W' ⟨rfl, hb⟩
      replace hb : Below W.heap.size W W' := by rw [hb]; exact Below.refl _ _
      have hkept := fun kb (hk : kb < W.heap.size) => hb.block kb hk
      exact hK.out _ _ ⟨b0, b1, b2, b3, b4, b5, b6, true, v5, v6, v7, v8, v9, v10, .bool true, .tuple #[], rfl, (by simp only [Act.put, List.setIfInBounds_toArray, List.set_cons_zero, List.set_cons_succ]), hB.trans (hb.mono hB.size), h0, h1, h2, h3, h4, h5, Lib.hid (fun _ => rfl), Lib.hid (fun _ => rfl)⟩
  intro L A W hI hr
  obtain ⟨b0, b1, b2, b3, b4, b5, b6, b7, v5, v6, v7, v8, v9, v10, v11, v12, rfl, rfl, hB, h0, h1, h2, h3, h4, h5, h6, h7⟩ := hI
  have d0 := ready_done hr 0 _ rfl (by simp [Region.binds])
  have d2 := ready_done hr 2 _ rfl (by simp [Region.binds])
  have d4 := ready_done hr 4 _ rfl (by simp [Region.binds])
  simp at d0 d2 d4
  subst d0 d2 d4
  have d1 := ready_done hr 1 _ rfl (by simp [Region.binds])
  have d3 := ready_done hr 3 _ rfl (by simp [Region.binds])
  have d5 := ready_done hr 5 _ rfl (by simp [Region.binds])
  simp at d1 d3 d5
  subst d1 d3 d5
  have d6 := ready_done hr 6 _ rfl (by simp [Region.binds])
  simp at d6
  subst d6
  have d7 := ready_done hr 7 _ rfl (by simp [Region.binds])
  simp at d7
  subst d7
  obtain rfl := h0.out rfl
  obtain rfl := h1.out rfl
  obtain rfl := h2.out rfl
  obtain rfl := h3.out rfl
  obtain rfl := h4.out rfl
  obtain rfl := h5.out rfl
  obtain rfl := h6.out rfl
  obtain rfl := h7.out rfl
  simp only [Act.put, List.setIfInBounds_toArray, List.set_cons_zero, List.set_cons_succ]
  clear hr h0 h1 h2 h3 h4 h5 h6 h7
  have HB2 := Lib.hid hB
  clear hB
  obtain ⟨q0, q1, q2, q3⟩ := HX.out _ HB2.out
  have CX2 := Lib.hid (CX.out _ HB2.out)
  have HB3 := Lib.hid (HB0.out.trans (HB2.out.mono HB0.out.size))
  clear HX CX CH CQ
  go_wp2_with fail
  refine CX2.out.mono ?_
  rintro e w1 ⟨rfl, hb⟩
  have B1 := Lib.hid (HB3.out.trans (hb.mono HB3.out.size))
  clear hb
  go_wp2
  go_ret
  exact ⟨rfl, B1.out⟩

set_option maxHeartbeats 2000000 in
set_option maxRecDepth 100000 in
theorem requiredIndex_no (c n : Nat) (x y : Int) (w : World) (hn : n ≤ 4) (hno : hasB (sd (n : Int)) (sd (n : Int)) x y = false) (hr : NoRes w) : Calls Tryd.prog 57 #[.agg #[.int .i64 (c : Int), .int .i64 (n : Int)], .agg #[.int .i64 x, .int .i64 y]] w (fun e w' => (∃ T x, e = .panicked [{ v := .iface T x, recovered := false }]) ∧ Below w.heap.size w w') := by
  obtain ⟨W0, hW0⟩ : ∃ W0, ((w.alloc (.cells #[.int .i64 (c : Int), .int .i64 (n : Int)] 73)).alloc (.cells #[.int .i64 x, .int .i64 y] 26)) = W0 := ⟨_, rfl⟩
  have b0 : Below w.heap.size w W0 := by rw [← hW0]; exact Joins.below_alloc2 _ _ _
  have hp0 : W0.heap[w.heap.size]? = some (.cells #[.int .i64 (c : Int), .int .i64 (n : Int)] 73 (0, 0)) := by
    rw [← hW0, Below.heap_alloc _ _ _ (by simp)]; exact heap_alloc_last w _
  have hr0 : W0.heap[w.heap.size + 1]? = some (.cells #[.int .i64 x, .int .i64 y] 26 (0, 0)) := by
    rw [← hW0]
    exact heap_alloc2_new _ _ _
  have HX : Hid (∀ W, Below W0.heap.size W0 W → W.cell? ⟨w.heap.size, 0, none⟩ = some (.int .i64 (c : Int)) ∧ W.cell? ⟨w.heap.size, 1, none⟩ = some (.int .i64 (n : Int)) ∧ W.cell? ⟨w.heap.size + 1, 0, none⟩ = some (.int .i64 x) ∧ W.cell? ⟨w.heap.size + 1, 1, none⟩ = some (.int .i64 y)) := fun W hb =>
    ⟨cell_kept hb (by rw [Joins.cell_of_block hp0 0]; rfl), cell_kept hb (by rw [Joins.cell_of_block hp0 1]; rfl), cell_kept hb (by rw [Joins.cell_of_block hr0 0]; rfl), cell_kept hb (by rw [Joins.cell_of_block hr0 1]; rfl)⟩
  have HB0 := Lib.hid b0
  have HW := Lib.hid hW0
  have CQ := Lib.hid (fun W => square_any (c : Int) (n : Int) W (by omega) (by omega))
  have CH : Hid (∀ W, Calls Tryd.prog 110 #[.agg (mcells (sd (n : Int)) (sd (n : Int)) (fun _ => 0)), .int .i64 x, .int .i64 y] W (SaysB false W)) := fun W => by
    have := has_any _ (sd (n : Int)) (sd (n : Int)) (fun _ => 0) x y W ⟨rfl⟩
    rwa [hno] at this
  have CN : Hid (∀ W, Below W0.heap.size W0 W → Calls Tryd.prog 61 #[.bool false] W fun e w' => (∃ T x, e = .panicked [{ v := .iface T x, recovered := false }]) ∧ w' = W) := fun W hb => (require_no W ((hr.below b0).below hb)).mono fun e w' ⟨T, x, h1, h2⟩ => ⟨⟨T, x, h1⟩, h2⟩
  obtain ⟨C, hC⟩ : ∃ C, mcells (sd (n : Int)) (sd (n : Int)) (fun _ => 0) = C := ⟨_, rfl⟩
  rw [hC] at CQ CH
  unfold SaysB at CH
  clear hW0 hr b0 hp0 hr0 hno hC
  go_enter Tryd.func57, Tryd.ntmps57
  go_upto_region 1 with fail
  rw [HW.out]
  refine wp_region_inv_at (by kernel_rfl) (fun A0 L A W => ∃ (b0 b1 b2 b3 b4 b5 b6 b7 : Bool) (v5 v6 v7 v8 v9 v10 v11 v12 : Value), L = #[b0, b1, b2, b3, b4, b5, b6, b7] ∧ A = ((((((((A0.put (some 5) v5).put (some 6) v6).put (some 7) v7).put (some 8) v8).put (some 9) v9).put (some 10) v10).put (some 11) v11).put (some 12) v12) ∧ (Below W0.heap.size W0 W) ∧ Hid (b0 = true → v5 = .agg #[.int .i64 (c : Int), .int .i64 (n : Int)]) ∧ Hid (b1 = true → v6 = .agg C) ∧ Hid (b2 = true → v7 = .pointer (some ⟨w.heap.size + 1, 0, none⟩)) ∧ Hid (b3 = true → v8 = .int .i64 x) ∧ Hid (b4 = true → v9 = .pointer (some ⟨w.heap.size + 1, 1, none⟩)) ∧ Hid (b5 = true → v10 = .int .i64 y) ∧ Hid (b6 = true → v11 = .bool false) ∧ Hid (b7 = true → False)) ?_ ?_ ?_
  · intro A0
    refine ⟨false, false, false, false, false, false, false, false, A0.tmps.getD 5 undef, A0.tmps.getD 6 undef, A0.tmps.getD 7 undef, A0.tmps.getD 8 undef, A0.tmps.getD 9 undef, A0.tmps.getD 10 undef, A0.tmps.getD 11 undef, A0.tmps.getD 12 undef, rfl, (by simp only [put_self]), (Below.refl _ _).drew, Lib.hid (fun hf => by cases hf), Lib.hid (fun hf => by cases hf), Lib.hid (fun hf => by cases hf), Lib.hid (fun hf => by cases hf), Lib.hid (fun hf => by cases hf), Lib.hid (fun hf => by cases hf), Lib.hid (fun hf => by cases hf), Lib.hid (fun hf => by cases hf)⟩
  · intro L A W hI i hi o ho K' hK
    have hlt := (ready_left hi).1
    have hun := (ready_left hi).2
    have haf := ready_after hi ho
    clear hi
    obtain ⟨b0, b1, b2, b3, b4, b5, b6, b7, v5, v6, v7, v8, v9, v10, v11, v12, rfl, rfl, hB, h0, h1, h2, h3, h4, h5, h6, h7⟩ := hI
    have hc : i = 0 ∨ i = 1 ∨ i = 2 ∨ i = 3 ∨ i = 4 ∨ i = 5 ∨ i = 6 ∨ i = 7 := by
      simp at hlt
      omega
    have q0 := (HX.out W hB).1
    have q1 := (HX.out W hB).2.1
    have q2 := (HX.out W hB).2.2.1
    have q3 := (HX.out W hB).2.2.2
    rcases hc with rfl | rfl | rfl | rfl | rfl | rfl | rfl | rfl
    all_goals (obtain rfl := Option.some.inj ho; clear ho; simp [Region.binds] at haf hun; (try simp only [List.getElem_toArray, List.getElem_cons_zero, List.getElem_cons_succ]); simp only [Act.put, List.setIfInBounds_toArray, List.set_cons_zero, List.set_cons_succ])
    · -- operation 0
      replace hK := Lib.hid hK
      subst hun
      go_simp
      exact hK.out _ _ ⟨true, b1, b2, b3, b4, b5, b6, b7, .agg #[.int .i64 (c : Int), .int .i64 (n : Int)], v6, v7, v8, v9, v10, v11, v12, rfl, (by simp only [Act.put, List.setIfInBounds_toArray, List.set_cons_zero, List.set_cons_succ]), hB, Lib.hid (fun _ => rfl), h1, h2, h3, h4, h5, h6, h7⟩
    · -- operation 1
      replace hK := Lib.hid hK
      obtain rfl := h0.out (by simp only [haf])
      subst hun
      go_simp
      refine (CQ.out W).mono ?_
      rintro e W' ⟨rfl, hb⟩
      have hkept := fun kb (hk : kb < W.heap.size) => hb.block kb hk
      exact hK.out _ _ ⟨b0, true, b2, b3, b4, b5, b6, b7, .agg #[.int .i64 (c : Int), .int .i64 (n : Int)], .agg C, v7, v8, v9, v10, v11, v12, rfl, (by simp only [Act.put, List.setIfInBounds_toArray, List.set_cons_zero, List.set_cons_succ]), hB.trans (hb.mono hB.size), Lib.hid (fun _ => rfl), Lib.hid (fun _ => rfl), h2, h3, h4, h5, h6, h7⟩
    · -- operation 2
      replace hK := Lib.hid hK
      subst hun
      go_simp
      exact hK.out _ _ ⟨b0, b1, true, b3, b4, b5, b6, b7, v5, v6, .pointer (some ⟨w.heap.size + 1, 0, none⟩), v8, v9, v10, v11, v12, rfl, (by simp only [Act.put, List.setIfInBounds_toArray, List.set_cons_zero, List.set_cons_succ]), hB, h0, h1, Lib.hid (fun _ => rfl), h3, h4, h5, h6, h7⟩
    · -- operation 3
      replace hK := Lib.hid hK
      obtain rfl := h2.out (by simp only [haf])
      subst hun
      go_simp
      exact hK.out _ _ ⟨b0, b1, b2, true, b4, b5, b6, b7, v5, v6, .pointer (some ⟨w.heap.size + 1, 0, none⟩), .int .i64 x, v9, v10, v11, v12, rfl, (by simp only [Act.put, List.setIfInBounds_toArray, List.set_cons_zero, List.set_cons_succ]), hB, h0, h1, Lib.hid (fun _ => rfl), Lib.hid (fun _ => rfl), h4, h5, h6, h7⟩
    · -- operation 4
      replace hK := Lib.hid hK
      subst hun
      go_simp
      exact hK.out _ _ ⟨b0, b1, b2, b3, true, b5, b6, b7, v5, v6, v7, v8, .pointer (some ⟨w.heap.size + 1, 1, none⟩), v10, v11, v12, rfl, (by simp only [Act.put, List.setIfInBounds_toArray, List.set_cons_zero, List.set_cons_succ]), hB, h0, h1, h2, h3, Lib.hid (fun _ => rfl), h5, h6, h7⟩
    · -- operation 5
      replace hK := Lib.hid hK
      obtain rfl := h4.out (by simp only [haf])
      subst hun
      go_simp
      exact hK.out _ _ ⟨b0, b1, b2, b3, b4, true, b6, b7, v5, v6, v7, v8, .pointer (some ⟨w.heap.size + 1, 1, none⟩), .int .i64 y, v11, v12, rfl, (by simp only [Act.put, List.setIfInBounds_toArray, List.set_cons_zero, List.set_cons_succ]), hB, h0, h1, h2, h3, Lib.hid (fun _ => rfl), Lib.hid (fun _ => rfl), h6, h7⟩
    · -- operation 6
      replace hK := Lib.hid hK
      obtain rfl := h1.out (by simp only [haf])
      obtain rfl := h3.out (by simp only [haf])
      obtain rfl := h5.out (by simp only [haf])
      subst hun
      go_simp
      refine (CH.out W).mono ?_
      rintro e W' ⟨rfl, hb⟩
      have hkept := fun kb (hk : kb < W.heap.size) => hb.block kb hk
      exact hK.out _ _ ⟨b0, b1, b2, b3, b4, b5, true, b7, v5, .agg C, v7, .int .i64 x, v9, .int .i64 y, .bool false, v12, rfl, (by simp only [Act.put, List.setIfInBounds_toArray, List.set_cons_zero, List.set_cons_succ]), hB.trans (hb.mono hB.size), h0, Lib.hid (fun _ => rfl), h2, Lib.hid (fun _ => rfl), h4, Lib.hid (fun _ => rfl), Lib.hid (fun _ => rfl), h7⟩
    · -- operation 7
      replace hK := Lib.hid hK
      obtain rfl := h6.out (by simp only [haf])
      subst hun
      go_simp
      refine (CN.out W hB).mono ?_
      rintro e W' ⟨⟨T, p, rfl⟩, rfl⟩
      go_wp2
      exact ⟨rfl, ⟨T, p, rfl⟩, HB0.out.trans (hB.mono HB0.out.size)⟩
  intro L A W hI hr
  obtain ⟨b0, b1, b2, b3, b4, b5, b6, b7, v5, v6, v7, v8, v9, v10, v11, v12, rfl, rfl, hB, h0, h1, h2, h3, h4, h5, h6, h7⟩ := hI
  have d0 := ready_done hr 0 _ rfl (by simp [Region.binds])
  have d2 := ready_done hr 2 _ rfl (by simp [Region.binds])
  have d4 := ready_done hr 4 _ rfl (by simp [Region.binds])
  simp at d0 d2 d4
  subst d0 d2 d4
  have d1 := ready_done hr 1 _ rfl (by simp [Region.binds])
  have d3 := ready_done hr 3 _ rfl (by simp [Region.binds])
  have d5 := ready_done hr 5 _ rfl (by simp [Region.binds])
  simp at d1 d3 d5
  subst d1 d3 d5
  have d6 := ready_done hr 6 _ rfl (by simp [Region.binds])
  simp at d6
  subst d6
  have d7 := ready_done hr 7 _ rfl (by simp [Region.binds])
  simp at d7
  subst d7
  exact (h7.out rfl).elim

set_option maxHeartbeats 2000000 in
set_option maxRecDepth 100000 in
theorem requiredTour_yes (c n : Int) (w : World) (hc : inB c 0 3 = true) (hn : inB n 0 4 = true) : Calls Tryd.prog 56 #[.int .i64 c, .int .i64 n] w (fun e w' => e = .returned (.agg #[.int .i64 c, .int .i64 n]) ∧ Below w.heap.size w w') := by
  have CO := Lib.hid (fun W => isOrder_any n W)
  rw [hn] at CO
  have hc2 : 0 ≤ c ∧ c ≤ 3 := by
    unfold inB at hc
    simpa using hc
  obtain ⟨k1, k2⟩ := hc2
  have CR := Lib.hid (fun W => require_yes W)
  go_enter Tryd.func56, Tryd.ntmps56
  go_wp2_with fail
  refine (CO.out _).mono ?_
  rintro e w1 ⟨rfl, rfl⟩
  go_wp2_with fail
  refine (CR.out _).mono ?_
  rintro e w2 ⟨rfl, rfl⟩
  go_wp2
  exact bodyPost_ret (results_cell1 (p := 4) (ty := 73) Tryd.results56 _ _ w.heap.size 73 _ (0, 0) _ rfl (heap_alloc_last w _) Tryd.underlying73 rfl (by kernel_rfl)) rfl ⟨rfl, Joins.below_alloc1 _ _⟩

set_option maxHeartbeats 2000000 in
set_option maxRecDepth 100000 in
theorem requiredTour_no (c n : Int) (w : World) (hno : (inB c 0 3 && inB n 0 4) = false) (hr : NoRes w) : Calls Tryd.prog 56 #[.int .i64 c, .int .i64 n] w (fun e w' => (∃ T x, e = .panicked [{ v := .iface T x, recovered := false }]) ∧ Below w.heap.size w w') := by
  have CO := Lib.hid (fun W => isOrder_any n W)
  have CN := Lib.hid (require_no _ (hr.below (Joins.below_alloc1 w (.cells #[.int .i64 0, .int .i64 0] 73))))
  have B0 := Lib.hid (Joins.below_alloc1 w (.cells #[.int .i64 0, .int .i64 0] 73))
  clear hr
  by_cases k1 : 0 ≤ c
  · by_cases k2 : c ≤ 3
    · have hn : inB n 0 4 = false := by
        have : inB c 0 3 = true := by unfold inB; simp [k1, k2]
        rw [this] at hno
        simpa using hno
      rw [hn] at CO
      clear hno
      go_enter Tryd.func56, Tryd.ntmps56
      go_wp2_with fail
      refine (CO.out _).mono ?_
      rintro e w1 ⟨rfl, rfl⟩
      go_wp2_with fail
      refine CN.out.mono ?_
      rintro e w4 ⟨T, x, rfl, rfl⟩
      go_wp2
      exact ⟨rfl, ⟨T, x, rfl⟩, B0.out⟩
    · clear hno CO
      go_enter Tryd.func56, Tryd.ntmps56
      go_wp2_with fail
      refine CN.out.mono ?_
      rintro e w4 ⟨T, x, rfl, rfl⟩
      go_wp2
      exact ⟨rfl, ⟨T, x, rfl⟩, B0.out⟩
  · clear hno CO
    go_enter Tryd.func56, Tryd.ntmps56
    go_wp2_with fail
    refine CN.out.mono ?_
    rintro e w4 ⟨T, x, rfl, rfl⟩
    go_wp2
    exact ⟨rfl, ⟨T, x, rfl⟩, B0.out⟩
end Go.Proofs.YtdeagfmldpociaaDoor
