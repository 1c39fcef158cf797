/- Contracts of single functions, and plain lemmas, on which the exact laws of this seat rest; each holds under the conditions that it states. -/
import Derived.Test.YtabkkpifkkgpeaaDoorCV4
import Derived.Test.YtabkkpifkkgpeaaDoorD1
import Derived.BigQuiet
import Derived.Deep.QuietTactic
namespace Go.Proofs.YtabkkpifkkgpeaaDoor
set_option linter.unusedVariables false
set_option linter.unusedSimpArgs false
open Go.RowKit
attribute [local go_sem] Oper.semAt_some

theorem bHas_any (fx fy tx ty x y : Int) (w : World) : Calls Tryd.prog 130 #[.agg #[.int .i64 fx, .int .i64 fy, .int .i64 tx, .int .i64 ty], .agg #[.int .i64 x, .int .i64 y]] w (SaysB (inB x fx tx && inB y fy ty) w) := by
  obtain ⟨W0, hW0⟩ : ∃ W0, ((w.alloc (.cells #[.int .i64 fx, .int .i64 fy, .int .i64 tx, .int .i64 ty] 91)).alloc (.cells #[.int .i64 x, .int .i64 y] 29)) = W0 := ⟨_, rfl⟩
  have b0 : Below w.heap.size w W0 := by rw [← hW0]; exact Joins.below_alloc2 _ _ _
  have hp0 : W0.heap[w.heap.size]? = some (.cells #[.int .i64 fx, .int .i64 fy, .int .i64 tx, .int .i64 ty] 91 (0, 0)) := by
    rw [← hW0, Below.heap_alloc _ _ _ (by simp)]; exact heap_alloc_last w _
  have hr0 : W0.heap[w.heap.size + 1]? = some (.cells #[.int .i64 x, .int .i64 y] 29 (0, 0)) := by
    rw [← hW0]
    exact heap_alloc2_new _ _ _
  have c0 : W0.cell? ⟨w.heap.size, 0, none⟩ = some (.int .i64 fx) := by rw [Joins.cell_of_block hp0 0]; rfl
  have c1 : W0.cell? ⟨w.heap.size, 1, none⟩ = some (.int .i64 fy) := by rw [Joins.cell_of_block hp0 1]; rfl
  have c2 : W0.cell? ⟨w.heap.size, 2, none⟩ = some (.int .i64 tx) := by rw [Joins.cell_of_block hp0 2]; rfl
  have c3 : W0.cell? ⟨w.heap.size, 3, none⟩ = some (.int .i64 ty) := by rw [Joins.cell_of_block hp0 3]; rfl
  have d0 : W0.cell? ⟨w.heap.size + 1, 0, none⟩ = some (.int .i64 x) := by rw [Joins.cell_of_block hr0 0]; rfl
  have d1 : W0.cell? ⟨w.heap.size + 1, 1, none⟩ = some (.int .i64 y) := by rw [Joins.cell_of_block hr0 1]; rfl
  have B0 := Lib.hid b0
  have HW := Lib.hid hW0
  have he : Hid ((inB x fx tx && inB y fy ty) = (decide (fx ≤ x) && (decide (x ≤ tx) && (decide (fy ≤ y) && decide (y ≤ ty))))) := by
    show _ = _
    unfold inB
    rw [Bool.and_assoc]
  clear b0 hW0 hp0 hr0
  by_cases h1 : fx ≤ x
  · by_cases h2 : x ≤ tx
    · by_cases h3 : fy ≤ y
      · have e : Hid ((inB x fx tx && inB y fy ty) = decide (y ≤ ty)) := by show _ = _; rw [he.out]; simp [h1, h2, h3]
        clear he
        go_enter Tryd.func130, Tryd.ntmps130
        go_wp2_with fail
        rw [HW.out]
        go_wp2
        go_ret
        exact ⟨ret_bool e.out.symm, B0.out⟩
      · have e : Hid ((inB x fx tx && inB y fy ty) = false) := by show _ = _; rw [he.out]; simp [h3]
        clear he
        go_enter Tryd.func130, Tryd.ntmps130
        go_wp2_with fail
        rw [HW.out]
        go_wp2
        go_ret
        exact ⟨ret_bool (a := false) e.out.symm, B0.out⟩
    · have e : Hid ((inB x fx tx && inB y fy ty) = false) := by show _ = _; rw [he.out]; simp [h2]
      clear he
      go_enter Tryd.func130, Tryd.ntmps130
      go_wp2_with fail
      rw [HW.out]
      go_wp2
      go_ret
      exact ⟨ret_bool (a := false) e.out.symm, B0.out⟩
  · have e : Hid ((inB x fx tx && inB y fy ty) = false) := by show _ = _; rw [he.out]; simp [h1]
    clear he
    go_enter Tryd.func130, Tryd.ntmps130
    go_wp2_with fail
    rw [HW.out]
    go_wp2
    go_ret
    exact ⟨ret_bool (a := false) e.out.symm, B0.out⟩

def isInB (d fx fy tx ty : Int) : Bool := hasB d d fx fy && (hasB d d tx ty && (inB tx fx tx && inB ty fy ty))
set_option maxHeartbeats 2000000 in
set_option maxRecDepth 100000 in
theorem isIn_any (d fx fy tx ty : Int) (w : World) : Calls Tryd.prog 68 #[.agg #[.int .i64 fx, .int .i64 fy, .int .i64 tx, .int .i64 ty], .agg (mcells d d (fun _ => 0))] w (SaysB (isInB d fx fy tx ty) w) := by
  have CH : Hid (∀ x y W, Calls Tryd.prog 124 #[.agg (mcells d d (fun _ => 0)), .int .i64 x, .int .i64 y] W (SaysB (hasB d d x y) W)) := fun x y W => has_any _ d d (fun _ => 0) x y W ⟨rfl⟩
  have CB : Hid (∀ x y W, Calls Tryd.prog 130 #[.agg #[.int .i64 fx, .int .i64 fy, .int .i64 tx, .int .i64 ty], .agg #[.int .i64 x, .int .i64 y]] W (SaysB (inB x fx tx && inB y fy ty) W)) := fun x y W => bHas_any fx fy tx ty x y W
  have HI4 : Hid ((Tryd.prog.info? 96).map (·.size) = some (mcells d d (fun _ => 0)).size) := infoM
  obtain ⟨C, hC⟩ : ∃ C, mcells d d (fun _ => 0) = C := ⟨_, rfl⟩
  rw [hC] at CH HI4 ⊢
  obtain ⟨W0, hW0⟩ : ∃ W0, ((w.alloc (.cells #[.int .i64 fx, .int .i64 fy, .int .i64 tx, .int .i64 ty] 91)).alloc (.cells C 96)) = W0 := ⟨_, rfl⟩
  have b0 : Below w.heap.size w W0 := by rw [← hW0]; exact Joins.below_alloc2 _ _ _
  have hp0 : W0.heap[w.heap.size]? = some (.cells #[.int .i64 fx, .int .i64 fy, .int .i64 tx, .int .i64 ty] 91 (0, 0)) := by
    rw [← hW0, Below.heap_alloc _ _ _ (by simp)]; exact heap_alloc_last w _
  have hr0 : W0.heap[w.heap.size + 1]? = some (.cells C 96 (0, 0)) := by
    rw [← hW0]
    exact heap_alloc2_new _ _ _
  have HX : Hid (∀ W, Below W0.heap.size W0 W → W.cell? ⟨w.heap.size, 0, none⟩ = some (.int .i64 fx) ∧ W.cell? ⟨w.heap.size, 1, none⟩ = some (.int .i64 fy) ∧ W.cell? ⟨w.heap.size, 2, none⟩ = some (.int .i64 tx) ∧ W.cell? ⟨w.heap.size, 3, none⟩ = some (.int .i64 ty)) := fun W hb =>
    ⟨cell_kept hb (by rw [Joins.cell_of_block hp0 0]; rfl), cell_kept hb (by rw [Joins.cell_of_block hp0 1]; rfl), cell_kept hb (by rw [Joins.cell_of_block hp0 2]; rfl), cell_kept hb (by rw [Joins.cell_of_block hp0 3]; rfl)⟩
  have HS : Hid (∀ W, Below W0.heap.size W0 W → W.heap[w.heap.size + 1]? = some (.cells C 96 (0, 0))) := fun W hb => (hb.block _ (Array.getElem?_eq_some_iff.1 hr0).1).trans hr0
  have HP : Hid (∀ W, Below W0.heap.size W0 W → W.heap[w.heap.size]? = some (.cells #[.int .i64 fx, .int .i64 fy, .int .i64 tx, .int .i64 ty] 91 (0, 0))) := fun W hb => (hb.block _ (Array.getElem?_eq_some_iff.1 hp0).1).trans hp0
  have B0 := Lib.hid b0
  have BR : Hid (Below W0.heap.size W0 W0) := Below.refl _ _
  have HW := Lib.hid hW0
  have he : Hid (isInB d fx fy tx ty = (hasB d d fx fy && (hasB d d tx ty && (inB tx fx tx && inB ty fy ty)))) := rfl
  have l0 := b0.size
  have lr := (Array.getElem?_eq_some_iff.1 hr0).1
  obtain ⟨r, hr⟩ : ∃ r, isInB d fx fy tx ty = r := ⟨_, rfl⟩
  rw [hr] at he ⊢
  obtain ⟨b1, hb1⟩ : ∃ b, hasB d d fx fy = b := ⟨_, rfl⟩
  obtain ⟨b2, hb2⟩ : ∃ b, hasB d d tx ty = b := ⟨_, rfl⟩
  have C1 := Lib.hid (fun W => CH.out fx fy W)
  have C2 := Lib.hid (fun W => CH.out tx ty W)
  have C3 := Lib.hid (fun W => CB.out tx ty W)
  rw [hb1] at he C1
  rw [hb2] at he C2
  obtain ⟨b3, hb3⟩ : ∃ b, (inB tx fx tx && inB ty fy ty) = b := ⟨_, rfl⟩
  rw [hb3] at he C3
  have c0 := (HX.out _ BR.out).1
  have c1 := (HX.out _ BR.out).2.1
  clear CH CB hC b0 hW0 hp0 hr0 hb1 hb2 hb3 hr
  unfold SaysB at C1 C2 C3
  go_enter Tryd.func68, Tryd.ntmps68
  go_upto_region 1 with fail
  rw [HW.out]
  go_wp2_with (refine wpList_load_row rfl 96 _ rfl (w.heap.size + 1) rfl 96 C (0, 0) _ (HS.out _ BR.out) Tryd.underlying96 rfl HI4.out ?_)
  refine (C1.out _).mono ?_
  rintro e w1 ⟨rfl, hb⟩
  have B1 := Lib.hid hb
  clear hb c0 c1
  cases b1 with
  | false =>
    have e : Hid (false = r) := he.out.symm
    have B9 := Lib.hid (B0.out.trans (B1.out.mono B0.out.size))
    go_wp2_with fail
    go_ret
    exact ⟨ret_bool e.out, B9.out⟩
  | true =>
    have c2 := (HX.out _ B1.out).2.2.1
    have c3 := (HX.out _ B1.out).2.2.2
    go_wp2_with (refine wpList_load_row_g rfl 96 _ rfl (w.heap.size + 1) rfl 96 C (0, 0) _ (HS.out _ B1.out) Tryd.underlying96 rfl HI4.out ?_)
    refine (C2.out _).mono ?_
    rintro e w2 ⟨rfl, hb⟩
    have B2 := Lib.hid (B1.out.trans (hb.mono B1.out.size))
    clear hb c2 c3
    cases b2 with
    | false =>
      have e : Hid (false = r) := he.out.symm
      have B9 := Lib.hid (B0.out.trans (B2.out.mono B0.out.size))
      go_wp2_with fail
      go_ret
      exact ⟨ret_bool e.out, B9.out⟩
    | true =>
      have c0 := (HX.out _ B2.out).1
      have c1 := (HX.out _ B2.out).2.1
      have c2 := (HX.out _ B2.out).2.2.1
      have c3 := (HX.out _ B2.out).2.2.2
      go_wp2_with fail
      refine (C3.out _).mono ?_
      rintro e w3 ⟨rfl, hb⟩
      have B9 := Lib.hid (B0.out.trans ((B2.out.trans (hb.mono B2.out.size)).mono B0.out.size))
      clear hb
      have e : Hid (b3 = r) := he.out.symm
      go_wp2_with fail
      go_ret
      exact ⟨ret_bool e.out, B9.out⟩

/-! ### a box of an order -/
def boxB (d fx fy tx ty : Int) : Bool := inB fx 0 (d - 1) && (inB fy 0 (d - 1) && (inB tx fx (d - 1) && inB ty fy (d - 1)))
def boxOk (n fx fy tx ty : Int) : Bool := inB n 0 4 && boxB (sd n) fx fy tx ty
theorem isInB_box (d fx fy tx ty : Int) : isInB d fx fy tx ty = boxB d fx fy tx ty := by
  rw [Bool.eq_iff_iff]
  unfold isInB boxB hasB inB
  simp only [Bool.and_eq_true, decide_eq_true_eq]
  omega

set_option maxHeartbeats 2000000 in
set_option maxRecDepth 100000 in
theorem impl_CurveBox (n fx fy tx ty : Int) (w : World) : Calls Tryd.prog 17 #[.int .i64 n, .agg #[.int .i64 fx, .int .i64 fy], .agg #[.int .i64 tx, .int .i64 ty]] w (SaysB (boxOk n fx fy tx ty) w) := by
  obtain ⟨W0, hW0⟩ : ∃ W0, ((w.alloc (.cells #[.int .i64 fx, .int .i64 fy] 29)).alloc (.cells #[.int .i64 tx, .int .i64 ty] 29)) = W0 := ⟨_, rfl⟩
  have b0 : Below w.heap.size w W0 := by rw [← hW0]; exact Joins.below_alloc2 _ _ _
  have hp0 : W0.heap[w.heap.size]? = some (.cells #[.int .i64 fx, .int .i64 fy] 29 (0, 0)) := by
    rw [← hW0, Below.heap_alloc _ _ _ (by simp)]; exact heap_alloc_last w _
  have hr0 : W0.heap[w.heap.size + 1]? = some (.cells #[.int .i64 tx, .int .i64 ty] 29 (0, 0)) := by
    rw [← hW0]
    exact heap_alloc2_new _ _ _
  have HX : Hid (∀ W, Below W0.heap.size W0 W → W.cell? ⟨w.heap.size, 0, none⟩ = some (.int .i64 fx) ∧ W.cell? ⟨w.heap.size, 1, none⟩ = some (.int .i64 fy) ∧ W.cell? ⟨w.heap.size + 1, 0, none⟩ = some (.int .i64 tx) ∧ W.cell? ⟨w.heap.size + 1, 1, none⟩ = some (.int .i64 ty)) := fun W hb =>
    ⟨cell_kept hb (by rw [Joins.cell_of_block hp0 0]; rfl), cell_kept hb (by rw [Joins.cell_of_block hp0 1]; rfl), cell_kept hb (by rw [Joins.cell_of_block hr0 0]; rfl), cell_kept hb (by rw [Joins.cell_of_block hr0 1]; rfl)⟩
  have B0 := Lib.hid b0
  have HW := Lib.hid hW0
  have he : Hid (boxOk n fx fy tx ty = (inB n 0 4 && isInB (sd n) fx fy tx ty)) := by show _ = _; rw [isInB_box]; rfl
  have CO := Lib.hid (fun W => isOrder_any n W)
  obtain ⟨q, hq⟩ : ∃ r, boxOk n fx fy tx ty = r := ⟨_, rfl⟩
  rw [hq] at he ⊢
  clear b0 hW0 hp0 hr0 hq
  cases hn : inB n 0 4 with
  | false =>
    rw [hn] at he CO
    have e : Hid (false = q) := he.out.symm
    have c0 := (HX.out W0 (Below.refl _ _)).1
    have c1 := (HX.out W0 (Below.refl _ _)).2.1
    have c2 := (HX.out W0 (Below.refl _ _)).2.2.1
    have c3 := (HX.out W0 (Below.refl _ _)).2.2.2
    clear he HX hn
    go_enter Tryd.func17, Tryd.ntmps17
    go_upto_region 1 with fail
    rw [HW.out]
    go_quiet ((go_at_call 67; exact Calls.quiet_of_same ((CO.out _).mono fun e w' ⟨he, hw⟩ => ⟨he, hw.symm⟩)))
    go_wp2
    go_ret
    exact ⟨ret_bool e.out, B0.out.trans (Joins.below_draws w.heap.size _ _)⟩
  | true =>
    rw [hn] at he CO
    have hn2 : 0 ≤ n ∧ n ≤ 4 := by
      unfold inB at hn
      simpa using hn
    have CQ := Lib.hid (fun W => squareOf_any n W hn2.1 hn2.2)
    have CI := Lib.hid (fun W => isIn_any (sd n) fx fy tx ty W)
    obtain ⟨r, hr⟩ : ∃ r, isInB (sd n) fx fy tx ty = r := ⟨_, rfl⟩
    obtain ⟨C, hC⟩ : ∃ C, mcells (sd n) (sd n) (fun _ => 0) = C := ⟨_, rfl⟩
    rw [hr] at he CI
    rw [hC] at CQ CI
    have e : Hid (r = q) := he.out.symm
    unfold SaysB at CI
    clear he hn hr hC hn2
    go_enter Tryd.func17, Tryd.ntmps17
    go_upto_region 1 with fail
    rw [HW.out]
    refine wp_region_inv_at (by kernel_rfl) (fun A0 L A W => ∃ (b0 b1 b2 b3 b4 b5 b6 b7 b8 b9 b10 : Bool) (v7 v8 v9 v10 v11 v12 v13 v14 v15 v16 v6 : Value), L = #[b0, b1, b2, b3, b4, b5, b6, b7, b8, b9, b10] ∧ A = (((((((((((A0.put (some 7) v7).put (some 8) v8).put (some 9) v9).put (some 10) v10).put (some 11) v11).put (some 12) v12).put (some 13) v13).put (some 14) v14).put (some 15) v15).put (some 16) v16).put (some 6) v6) ∧ (Below W0.heap.size W0 W) ∧ Hid (b0 = true → v7 = .int .i64 n) ∧ Hid (b1 = true → v8 = .bool true) ∧ Hid (b2 = true → v9 = .bool true) ∧ Hid (b3 = true → v10 = .agg #[.int .i64 fx, .int .i64 fy]) ∧ Hid (b4 = true → v11 = .agg #[.int .i64 tx, .int .i64 ty]) ∧ Hid (b5 = true → v12 = .agg #[.int .i64 fx, .int .i64 fy, .int .i64 tx, .int .i64 ty]) ∧ Hid (b6 = true → v13 = .int .i64 n) ∧ Hid (b7 = true → v14 = .agg C) ∧ Hid (b8 = true → v15 = .bool r) ∧ Hid (b9 = true → v16 = .bool r) ∧ Hid (b10 = true → v6 = .bool r)) ?_ ?_ ?_
    · intro A0
      refine ⟨false, false, false, false, false, false, false, false, false, false, false, A0.tmps.getD 7 undef, A0.tmps.getD 8 undef, A0.tmps.getD 9 undef, A0.tmps.getD 10 undef, A0.tmps.getD 11 undef, A0.tmps.getD 12 undef, A0.tmps.getD 13 undef, A0.tmps.getD 14 undef, A0.tmps.getD 15 undef, A0.tmps.getD 16 undef, A0.tmps.getD 6 undef, rfl, (by simp only [put_self]), (Below.refl _ _).drew, Lib.hid (fun hf => by cases hf), Lib.hid (fun hf => by cases hf), Lib.hid (fun hf => by cases hf), Lib.hid (fun hf => by cases hf), Lib.hid (fun hf => by cases hf), Lib.hid (fun hf => by cases hf), Lib.hid (fun hf => by cases hf), Lib.hid (fun hf => by cases hf), Lib.hid (fun hf => by cases hf), Lib.hid (fun hf => by cases hf), Lib.hid (fun hf => by cases hf)⟩
    · intro L A W hI i hi o ho K' hK
      have hlt := (ready_left hi).1
      have hun := (ready_left hi).2
      have haf := ready_after hi ho
      clear hi
      obtain ⟨b0, b1, b2, b3, b4, b5, b6, b7, b8, b9, b10, v7, v8, v9, v10, v11, v12, v13, v14, v15, v16, v6, rfl, rfl, hB, h0, h1, h2, h3, h4, h5, h6, h7, h8, h9, h10⟩ := hI
      have hc : i = 0 ∨ i = 1 ∨ i = 2 ∨ i = 3 ∨ i = 4 ∨ i = 5 ∨ i = 6 ∨ i = 7 ∨ i = 8 ∨ i = 9 ∨ i = 10 := by
        simp at hlt
        omega
      have q0 := (HX.out W hB).1
      have q1 := (HX.out W hB).2.1
      have q2 := (HX.out W hB).2.2.1
      have q3 := (HX.out W hB).2.2.2
      rcases hc with rfl | rfl | rfl | rfl | rfl | rfl | rfl | rfl | rfl | rfl | rfl
      all_goals (obtain rfl := Option.some.inj ho; clear ho; simp [Region.binds] at haf hun; (try simp only [List.getElem_toArray, List.getElem_cons_zero, List.getElem_cons_succ]); simp only [Act.put, List.setIfInBounds_toArray, List.set_cons_zero, List.set_cons_succ])
      · -- operation 0
        replace hK := Lib.hid hK
        subst hun
        go_simp
        exact hK.out _ _ ⟨true, b1, b2, b3, b4, b5, b6, b7, b8, b9, b10, .int .i64 n, v8, v9, v10, v11, v12, v13, v14, v15, v16, v6, rfl, (by simp only [Act.put, List.setIfInBounds_toArray, List.set_cons_zero, List.set_cons_succ]), hB, Lib.hid (fun _ => rfl), h1, h2, h3, h4, h5, h6, h7, h8, h9, h10⟩
      · -- operation 1
        replace hK := Lib.hid hK
        obtain rfl := h0.out (by simp only [haf])
        subst hun
        go_simp
        refine (CO.out W).mono ?_
        rintro e W' ⟨rfl, hb⟩
        replace hb : Below W.heap.size W W' := by rw [← hb]; exact Below.refl _ _
        have hkept := fun kb (hk : kb < W.heap.size) => hb.block kb hk
        exact hK.out _ _ ⟨b0, true, b2, b3, b4, b5, b6, b7, b8, b9, b10, .int .i64 n, .bool true, v9, v10, v11, v12, v13, v14, v15, v16, v6, rfl, (by simp only [Act.put, List.setIfInBounds_toArray, List.set_cons_zero, List.set_cons_succ]), hB.trans (hb.mono hB.size), Lib.hid (fun _ => rfl), Lib.hid (fun _ => rfl), h2, h3, h4, h5, h6, h7, h8, h9, h10⟩
      · -- operation 2
        replace hK := Lib.hid hK
        obtain rfl := h1.out (by simp only [haf])
        subst hun
        go_simp
        exact hK.out _ _ ⟨b0, b1, true, b3, b4, b5, b6, b7, b8, b9, b10, v7, .bool true, .bool true, v10, v11, v12, v13, v14, v15, v16, v6, rfl, (by simp only [Act.put, List.setIfInBounds_toArray, List.set_cons_zero, List.set_cons_succ]), hB, h0, Lib.hid (fun _ => rfl), Lib.hid (fun _ => rfl), h3, h4, h5, h6, h7, h8, h9, h10⟩
      · -- operation 3
        replace hK := Lib.hid hK
        obtain rfl := h2.out (by simp only [haf])
        subst hun
        go_simp
        exact hK.out _ _ ⟨b0, b1, b2, true, b4, b5, b6, b7, b8, b9, b10, v7, v8, .bool true, .agg #[.int .i64 fx, .int .i64 fy], v11, v12, v13, v14, v15, v16, v6, rfl, (by simp only [Act.put, List.setIfInBounds_toArray, List.set_cons_zero, List.set_cons_succ]), hB, h0, h1, Lib.hid (fun _ => rfl), Lib.hid (fun _ => rfl), h4, h5, h6, h7, h8, h9, h10⟩
      · -- operation 4
        replace hK := Lib.hid hK
        obtain rfl := h2.out (by simp only [haf])
        subst hun
        go_simp
        exact hK.out _ _ ⟨b0, b1, b2, b3, true, b5, b6, b7, b8, b9, b10, v7, v8, .bool true, v10, .agg #[.int .i64 tx, .int .i64 ty], v12, v13, v14, v15, v16, v6, rfl, (by simp only [Act.put, List.setIfInBounds_toArray, List.set_cons_zero, List.set_cons_succ]), hB, h0, h1, Lib.hid (fun _ => rfl), h3, Lib.hid (fun _ => rfl), h5, h6, h7, h8, h9, h10⟩
      · -- operation 5
        replace hK := Lib.hid hK
        obtain rfl := h2.out (by simp only [haf])
        obtain rfl := h3.out (by simp only [haf])
        obtain rfl := h4.out (by simp only [haf])
        subst hun
        go_simp
        exact hK.out _ _ ⟨b0, b1, b2, b3, b4, true, b6, b7, b8, b9, b10, v7, v8, .bool true, .agg #[.int .i64 fx, .int .i64 fy], .agg #[.int .i64 tx, .int .i64 ty], .agg #[.int .i64 fx, .int .i64 fy, .int .i64 tx, .int .i64 ty], v13, v14, v15, v16, v6, rfl, (by simp only [Act.put, List.setIfInBounds_toArray, List.set_cons_zero, List.set_cons_succ]), hB, h0, h1, Lib.hid (fun _ => rfl), Lib.hid (fun _ => rfl), Lib.hid (fun _ => rfl), Lib.hid (fun _ => rfl), h6, h7, h8, h9, h10⟩
      · -- operation 6
        replace hK := Lib.hid hK
        obtain rfl := h2.out (by simp only [haf])
        subst hun
        go_simp
        exact hK.out _ _ ⟨b0, b1, b2, b3, b4, b5, true, b7, b8, b9, b10, v7, v8, .bool true, v10, v11, v12, .int .i64 n, v14, v15, v16, v6, rfl, (by simp only [Act.put, List.setIfInBounds_toArray, List.set_cons_zero, List.set_cons_succ]), hB, h0, h1, Lib.hid (fun _ => rfl), h3, h4, h5, Lib.hid (fun _ => rfl), h7, h8, h9, h10⟩
      · -- operation 7
        replace hK := Lib.hid hK
        obtain rfl := h2.out (by simp only [haf])
        obtain rfl := h6.out (by simp only [haf])
        subst hun
        go_simp
        refine (CQ.out W).mono ?_
        rintro e W' ⟨rfl, hb⟩
        have hkept := fun kb (hk : kb < W.heap.size) => hb.block kb hk
        exact hK.out _ _ ⟨b0, b1, b2, b3, b4, b5, b6, true, b8, b9, b10, v7, v8, .bool true, v10, v11, v12, .int .i64 n, .agg C, v15, v16, v6, rfl, (by simp only [Act.put, List.setIfInBounds_toArray, List.set_cons_zero, List.set_cons_succ]), hB.trans (hb.mono hB.size), h0, h1, Lib.hid (fun _ => rfl), h3, h4, h5, Lib.hid (fun _ => rfl), Lib.hid (fun _ => rfl), h8, h9, h10⟩
      · -- operation 8
        replace hK := Lib.hid hK
        obtain rfl := h2.out (by simp only [haf])
        obtain rfl := h5.out (by simp only [haf])
        obtain rfl := h7.out (by simp only [haf])
        subst hun
        go_simp
        refine (CI.out W).mono ?_
        rintro e W' ⟨rfl, hb⟩
        have hkept := fun kb (hk : kb < W.heap.size) => hb.block kb hk
        exact hK.out _ _ ⟨b0, b1, b2, b3, b4, b5, b6, b7, true, b9, b10, v7, v8, .bool true, v10, v11, .agg #[.int .i64 fx, .int .i64 fy, .int .i64 tx, .int .i64 ty], v13, .agg C, .bool r, v16, v6, rfl, (by simp only [Act.put, List.setIfInBounds_toArray, List.set_cons_zero, List.set_cons_succ]), hB.trans (hb.mono hB.size), h0, h1, Lib.hid (fun _ => rfl), h3, h4, Lib.hid (fun _ => rfl), h6, Lib.hid (fun _ => rfl), Lib.hid (fun _ => rfl), h9, h10⟩
      · -- operation 9
        replace hK := Lib.hid hK
        obtain rfl := h2.out (by simp only [haf])
        obtain rfl := h8.out (by simp only [haf])
        subst hun
        go_simp
        exact hK.out _ _ ⟨b0, b1, b2, b3, b4, b5, b6, b7, b8, true, b10, v7, v8, .bool true, v10, v11, v12, v13, v14, .bool r, .bool r, v6, rfl, (by simp only [Act.put, List.setIfInBounds_toArray, List.set_cons_zero, List.set_cons_succ]), hB, h0, h1, Lib.hid (fun _ => rfl), h3, h4, h5, h6, h7, Lib.hid (fun _ => rfl), Lib.hid (fun _ => rfl), h10⟩
      · -- operation 10
        replace hK := Lib.hid hK
        obtain rfl := h9.out (by simp only [haf])
        subst hun
        go_simp
        exact hK.out _ _ ⟨b0, b1, b2, b3, b4, b5, b6, b7, b8, b9, true, v7, v8, v9, v10, v11, v12, v13, v14, v15, .bool r, .bool r, rfl, (by simp only [Act.put, List.setIfInBounds_toArray, List.set_cons_zero, List.set_cons_succ]), hB, h0, h1, h2, h3, h4, h5, h6, h7, h8, Lib.hid (fun _ => rfl), Lib.hid (fun _ => rfl)⟩
    intro L A W hI hr
    obtain ⟨b0, b1, b2, b3, b4, b5, b6, b7, b8, b9, b10, v7, v8, v9, v10, v11, v12, v13, v14, v15, v16, v6, rfl, rfl, hB, h0, h1, h2, h3, h4, h5, h6, h7, h8, h9, h10⟩ := hI
    have d0 := ready_done hr 0 _ rfl (by simp [Region.binds])
    simp at d0
    subst d0
    have d1 := ready_done hr 1 _ rfl (by simp [Region.binds])
    simp at d1
    subst d1
    have d2 := ready_done hr 2 _ rfl (by simp [Region.binds])
    simp at d2
    subst d2
    have d3 := ready_done hr 3 _ rfl (by simp [Region.binds])
    have d4 := ready_done hr 4 _ rfl (by simp [Region.binds])
    have d6 := ready_done hr 6 _ rfl (by simp [Region.binds])
    simp at d3 d4 d6
    subst d3 d4 d6
    have d5 := ready_done hr 5 _ rfl (by simp [Region.binds])
    have d7 := ready_done hr 7 _ rfl (by simp [Region.binds])
    simp at d5 d7
    subst d5 d7
    have d8 := ready_done hr 8 _ rfl (by simp [Region.binds])
    simp at d8
    subst d8
    have d9 := ready_done hr 9 _ rfl (by simp [Region.binds])
    simp at d9
    subst d9
    have d10 := ready_done hr 10 _ rfl (by simp [Region.binds])
    simp at d10
    subst d10
    obtain rfl := h0.out rfl
    obtain rfl := h1.out rfl
    obtain rfl := h2.out rfl
    obtain rfl := h3.out rfl
    obtain rfl := h4.out rfl
    obtain rfl := h5.out rfl
    obtain rfl := h6.out rfl
    obtain rfl := h7.out rfl
    obtain rfl := h8.out rfl
    obtain rfl := h9.out rfl
    obtain rfl := h10.out rfl
    simp only [Act.put, List.setIfInBounds_toArray, List.set_cons_zero, List.set_cons_succ]
    clear hr h0 h1 h2 h3 h4 h5 h6 h7 h8 h9 h10
    have HB2 := Lib.hid hB
    clear hB
    have B9 := Lib.hid (B0.out.trans (HB2.out.mono B0.out.size))
    go_wp2
    go_ret
    exact ⟨ret_bool e.out, B9.out⟩
end Go.Proofs.YtabkkpifkkgpeaaDoor
