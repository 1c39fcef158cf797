/- Contracts of single functions, and plain lemmas, on which the exact laws of this seat rest; each holds under the conditions that it states. -/
import Derived.Test.YtabkkpifkkgpeaaDoorCVM
import Derived.Test.YtabkkpifkkgpeaaDoorD3
namespace Go.Proofs.YtabkkpifkkgpeaaDoor
set_option linter.unusedVariables false
set_option linter.unusedSimpArgs false
open Go.RowKit
attribute [local go_sem] Oper.semAt_some

set_option maxHeartbeats 4000000 in
set_option maxRecDepth 100000 in
theorem nextWork_no (pc pn pi pf pt : Nat) (c n i ax ay bx b_y : Int) (w : World) (h : At5 w pc pn pi pf pt c n i ax ay bx b_y) (hr : NoRes w) (hok : nbP c n ax ay bx b_y i = false) :
    Calls Tryd.prog 65 #[.pointer (some ⟨pc, 0, none⟩), .pointer (some ⟨pn, 0, none⟩), .pointer (some ⟨pi, 0, none⟩), .pointer (some ⟨pf, 0, none⟩), .pointer (some ⟨pt, 0, none⟩)] w (fun e w' => (∃ T x, e = .panicked [{ v := .iface T x, recovered := false }]) ∧ Below w.heap.size w w') := by
  have HA : Hid (∀ W, Below w.heap.size w W → At5 W pc pn pi pf pt c n i ax ay bx b_y) := fun W hb => h.kept hb
  have q00 := h
  unfold At5 at q00
  obtain ⟨q0, q1, q2, q3, q4, q5, q6⟩ := q00
  cases ht : (inB c 0 3 && inB n 0 4) with
  | false =>
    have CT := Lib.hid (requiredTour_no c n w ht hr)
    clear h hr hok ht HA
    go_enter Tryd.func65, Tryd.ntmps65
    go_upto_region 1 with fail
    go_wp2_with fail
    refine CT.out.mono ?_
    rintro e w1 ⟨⟨T, x, rfl⟩, hb⟩
    have B1 := Lib.hid hb
    clear hb
    go_wp2
    exact ⟨rfl, ⟨T, x, rfl⟩, B1.out⟩
  | true =>
    have ht2 : inB c 0 3 = true ∧ inB n 0 4 = true := by simpa using ht
    have CT : Hid (∀ W, Calls Tryd.prog 49 #[.int .i64 c, .int .i64 n] W (fun e w' => e = .returned (.agg #[.int .i64 c, .int .i64 n]) ∧ Below W.heap.size W w')) := fun W => requiredTour_yes c n W ht2.1 ht2.2
    have CL := Lib.hid (fun W => len_int ht W)
    have HCN : Hid (∀ W, Below w.heap.size w W → Calls Tryd.prog 53 #[.bool false] W fun e w' => (∃ T x, e = .panicked [{ v := .iface T x, recovered := false }]) ∧ w' = W) := fun W hb => (require_no W (hr.below hb)).mono fun e w' ⟨T, x, h1, h2⟩ => ⟨⟨T, x, h1⟩, h2⟩
    unfold nbP at hok
    rw [ht, Bool.true_and] at hok
    have HBx : Hid (boxOk n ax ay bx b_y = false → ∀ W, Below w.heap.size w W → Calls Tryd.prog 64 #[.agg #[.int .i64 c, .int .i64 n], .agg #[.int .i64 ax, .int .i64 ay], .agg #[.int .i64 bx, .int .i64 b_y]] W (fun e w' => (∃ T x, e = .panicked [{ v := .iface T x, recovered := false }]) ∧ Below W.heap.size W w')) := fun hb W hbw => reqIx_int_no ht hb (hr.below hbw)
    obtain ⟨e2, he2⟩ : ∃ e, sd n * sd n = e := ⟨_, rfl⟩
    rw [he2] at CL hok
    have hnx : (0 ≤ i ∧ i < e2) → boxOk n ax ay bx b_y = false := fun hi => by
      have : inB i 0 (e2 - 1) = true := by unfold inB; rw [decide_eq_true hi.1, decide_eq_true (by omega)]; rfl
      rw [this, Bool.and_true] at hok
      exact hok
    clear h hr hok ht ht2 he2
    by_cases k0 : 0 ≤ i
    · by_cases k1 : i < e2
      · have hbx := hnx ⟨k0, k1⟩
        have HCR := Lib.hid (HBx.out hbx)
        obtain ⟨k, rfl⟩ : ∃ k : Nat, i = k := ⟨i.toNat, by omega⟩
        have ke := k1
        have kk0 := k0
        clear hnx hbx HBx
        go_enter Tryd.func65, Tryd.ntmps65
        go_upto_region 1 with fail
        go_wp2_with fail
        refine (CT.out _).mono ?_
        rintro e w1 ⟨rfl, hb1⟩
        have hbA := hb1.alloc hb1.size (.cells #[.int .i64 c, .int .i64 n] 71)
        have hp := heap_alloc_last w1 (.cells #[.int .i64 c, .int .i64 n] 71)
        have HBw := Lib.hid hbA
        clear q0 q1 q2 q3 q4 q5 q6 hb1
        go_upto_region 2 with fail
        obtain ⟨W2, hW2⟩ : ∃ W2, w1.alloc (.cells #[.int .i64 c, .int .i64 n] 71) = W2 := ⟨_, rfl⟩
        obtain ⟨pq, hpq⟩ : ∃ p, w1.heap.size = p := ⟨_, rfl⟩
        rw [hW2] at hp HBw
        rw [hpq] at hp
        have HW2 := Lib.hid hW2
        have HPt := Lib.hid hpq
        rw [HW2.out, HPt.out]
        have HX : Hid (∀ W, Below W2.heap.size W2 W → (W.cell? ⟨pq, 0, none⟩ = some (.int .i64 c) ∧ W.cell? ⟨pq, 1, none⟩ = some (.int .i64 n)) ∧ W.cell? ⟨pi, 0, none⟩ = some (.int .i64 ((k : Int))) ∧ True) := fun W hb =>
          ⟨⟨cell_kept hb (by rw [Joins.cell_of_block hp 0]; rfl), cell_kept hb (by rw [Joins.cell_of_block hp 1]; rfl)⟩, (HA.out W (HBw.out.trans (hb.mono HBw.out.size))).2.2.1, trivial⟩
        clear hp hbA hW2 hpq
        refine wp_region_inv_at (by kernel_rfl) (fun A0 L A W => ∃ (b0 b1 b2 b3 b4 b5 b6 b7 b8 : Bool) (v13 v14 v15 v16 v17 v18 v19 v20 v21 : Value), L = #[b0, b1, b2, b3, b4, b5, b6, b7, b8] ∧ A = (((((((((A0.put (some 13) v13).put (some 14) v14).put (some 15) v15).put (some 16) v16).put (some 17) v17).put (some 18) v18).put (some 19) v19).put (some 20) v20).put (some 21) v21) ∧ (Below W2.heap.size W2 W) ∧ Hid (b0 = true → v13 = .int .i64 (k : Int)) ∧ Hid (b1 = true → v14 = .bool true) ∧ Hid (b2 = true → v15 = .bool true) ∧ Hid (b3 = true → v16 = .int .i64 (k : Int)) ∧ Hid (b4 = true → v17 = .agg #[.int .i64 c, .int .i64 n]) ∧ Hid (b5 = true → v18 = .int .i64 e2) ∧ Hid (b6 = true → v19 = .bool true) ∧ Hid (b7 = true → v20 = .bool true) ∧ Hid (b8 = true → v21 = .tuple #[])) ?_ ?_ ?_
        · intro A0
          refine ⟨false, false, false, false, false, false, false, false, false, A0.tmps.getD 13 undef, A0.tmps.getD 14 undef, A0.tmps.getD 15 undef, A0.tmps.getD 16 undef, A0.tmps.getD 17 undef, A0.tmps.getD 18 undef, A0.tmps.getD 19 undef, A0.tmps.getD 20 undef, A0.tmps.getD 21 undef, rfl, (by simp only [put_self]), (Below.refl _ _).drew, Lib.hid (fun hf => by cases hf), Lib.hid (fun hf => by cases hf), Lib.hid (fun hf => by cases hf), Lib.hid (fun hf => by cases hf), Lib.hid (fun hf => by cases hf), Lib.hid (fun hf => by cases hf), Lib.hid (fun hf => by cases hf), Lib.hid (fun hf => by cases hf), Lib.hid (fun hf => by cases hf)⟩
        · intro L A W hI i hi o ho K' hK
          have hlt := (ready_left hi).1
          have hun := (ready_left hi).2
          have haf := ready_after hi ho
          clear hi
          obtain ⟨b0, b1, b2, b3, b4, b5, b6, b7, b8, v13, v14, v15, v16, v17, v18, v19, v20, v21, rfl, rfl, hB, h0, h1, h2, h3, h4, h5, h6, h7, h8⟩ := hI
          have hc : i = 0 ∨ i = 1 ∨ i = 2 ∨ i = 3 ∨ i = 4 ∨ i = 5 ∨ i = 6 ∨ i = 7 ∨ i = 8 := by
            simp at hlt
            omega
          have qq := HX.out W hB
          obtain ⟨q0, q1, q2⟩ := qq
          rcases hc with rfl | rfl | rfl | rfl | rfl | rfl | rfl | rfl | rfl
          all_goals (obtain rfl := Option.some.inj ho; clear ho; simp [Region.binds] at haf hun; (try simp only [List.getElem_toArray, List.getElem_cons_zero, List.getElem_cons_succ]); simp only [Act.put, List.setIfInBounds_toArray, List.set_cons_zero, List.set_cons_succ])
          · -- operation 0
            replace hK := Lib.hid hK
            subst hun
            go_simp
            exact hK.out _ _ ⟨true, b1, b2, b3, b4, b5, b6, b7, b8, .int .i64 (k : Int), v14, v15, v16, v17, v18, v19, v20, v21, rfl, (by simp only [Act.put, List.setIfInBounds_toArray, List.set_cons_zero, List.set_cons_succ]), hB, Lib.hid (fun _ => rfl), h1, h2, h3, h4, h5, h6, h7, h8⟩
          · -- operation 1
            replace hK := Lib.hid hK
            obtain rfl := (h0.out (by simp only [haf])).symm
            subst hun
            go_simp
            exact hK.out _ _ ⟨b0, true, b2, b3, b4, b5, b6, b7, b8, .int .i64 (k : Int), .bool true, v15, v16, v17, v18, v19, v20, v21, rfl, (by simp only [Act.put, List.setIfInBounds_toArray, List.set_cons_zero, List.set_cons_succ]), hB, Lib.hid (fun _ => rfl), Lib.hid (fun _ => rfl), h2, h3, h4, h5, h6, h7, h8⟩
          · -- operation 2
            replace hK := Lib.hid hK
            obtain rfl := (h1.out (by simp only [haf])).symm
            subst hun
            go_simp
            exact hK.out _ _ ⟨b0, b1, true, b3, b4, b5, b6, b7, b8, v13, .bool true, .bool true, v16, v17, v18, v19, v20, v21, rfl, (by simp only [Act.put, List.setIfInBounds_toArray, List.set_cons_zero, List.set_cons_succ]), hB, h0, Lib.hid (fun _ => rfl), Lib.hid (fun _ => rfl), h3, h4, h5, h6, h7, h8⟩
          · -- operation 3
            replace hK := Lib.hid hK
            obtain rfl := (h2.out (by simp only [haf])).symm
            subst hun
            go_simp
            exact hK.out _ _ ⟨b0, b1, b2, true, b4, b5, b6, b7, b8, v13, v14, .bool true, .int .i64 (k : Int), v17, v18, v19, v20, v21, rfl, (by simp only [Act.put, List.setIfInBounds_toArray, List.set_cons_zero, List.set_cons_succ]), hB, h0, h1, Lib.hid (fun _ => rfl), Lib.hid (fun _ => rfl), h4, h5, h6, h7, h8⟩
          · -- operation 4
            replace hK := Lib.hid hK
            obtain rfl := (h2.out (by simp only [haf])).symm
            subst hun
            go_simp
            exact hK.out _ _ ⟨b0, b1, b2, b3, true, b5, b6, b7, b8, v13, v14, .bool true, v16, .agg #[.int .i64 c, .int .i64 n], v18, v19, v20, v21, rfl, (by simp only [Act.put, List.setIfInBounds_toArray, List.set_cons_zero, List.set_cons_succ]), hB, h0, h1, Lib.hid (fun _ => rfl), h3, Lib.hid (fun _ => rfl), h5, h6, h7, h8⟩
          · -- operation 5
            replace hK := Lib.hid hK
            obtain rfl := (h2.out (by simp only [haf])).symm
            obtain rfl := (h4.out (by simp only [haf])).symm
            subst hun
            go_simp
            refine (CL.out W).mono ?_
            rintro e W' ⟨rfl, hb⟩
            have hkept := fun kb (hk : kb < W.heap.size) => hb.block kb hk
            exact hK.out _ _ ⟨b0, b1, b2, b3, b4, true, b6, b7, b8, v13, v14, .bool true, v16, .agg #[.int .i64 c, .int .i64 n], .int .i64 e2, v19, v20, v21, rfl, (by simp only [Act.put, List.setIfInBounds_toArray, List.set_cons_zero, List.set_cons_succ]), hB.trans (hb.mono hB.size), h0, h1, Lib.hid (fun _ => rfl), h3, Lib.hid (fun _ => rfl), Lib.hid (fun _ => rfl), h6, h7, h8⟩
          · -- operation 6
            replace hK := Lib.hid hK
            obtain rfl := (h2.out (by simp only [haf])).symm
            obtain rfl := (h3.out (by simp only [haf])).symm
            obtain rfl := (h5.out (by simp only [haf])).symm
            subst hun
            go_simp
            exact hK.out _ _ ⟨b0, b1, b2, b3, b4, b5, true, b7, b8, v13, v14, .bool true, .int .i64 (k : Int), v17, .int .i64 e2, .bool true, v20, v21, rfl, (by simp only [Act.put, List.setIfInBounds_toArray, List.set_cons_zero, List.set_cons_succ]), hB, h0, h1, Lib.hid (fun _ => rfl), Lib.hid (fun _ => rfl), h4, Lib.hid (fun _ => rfl), Lib.hid (fun _ => rfl), h7, h8⟩
          · -- operation 7
            replace hK := Lib.hid hK
            obtain rfl := (h2.out (by simp only [haf])).symm
            obtain rfl := (h6.out (by simp only [haf])).symm
            subst hun
            go_simp
            exact hK.out _ _ ⟨b0, b1, b2, b3, b4, b5, b6, true, b8, v13, v14, .bool true, v16, v17, v18, .bool true, .bool true, v21, rfl, (by simp only [Act.put, List.setIfInBounds_toArray, List.set_cons_zero, List.set_cons_succ]), hB, h0, h1, Lib.hid (fun _ => rfl), h3, h4, h5, Lib.hid (fun _ => rfl), Lib.hid (fun _ => rfl), h8⟩
          · -- operation 8
            replace hK := Lib.hid hK
            obtain rfl := (h7.out (by simp only [haf])).symm
            subst hun
            go_simp
            refine (require_yes W).mono ?_
            rintro e W' ⟨rfl, hb⟩
            replace hb : Below W.heap.size W W' := by rw [hb]; exact Below.refl _ _
            have hkept := fun kb (hk : kb < W.heap.size) => hb.block kb hk
            exact hK.out _ _ ⟨b0, b1, b2, b3, b4, b5, b6, b7, true, v13, v14, v15, v16, v17, v18, v19, .bool true, .tuple #[], rfl, (by simp only [Act.put, List.setIfInBounds_toArray, List.set_cons_zero, List.set_cons_succ]), hB.trans (hb.mono hB.size), h0, h1, h2, h3, h4, h5, h6, Lib.hid (fun _ => rfl), Lib.hid (fun _ => rfl)⟩
        intro L A W hI hr
        obtain ⟨b0, b1, b2, b3, b4, b5, b6, b7, b8, v13, v14, v15, v16, v17, v18, v19, v20, v21, rfl, rfl, hB, h0, h1, h2, h3, h4, h5, h6, h7, h8⟩ := hI
        have d0 := ready_done hr 0 _ rfl (by simp [Region.binds])
        simp at d0
        subst d0
        have d1 := ready_done hr 1 _ rfl (by simp [Region.binds])
        simp at d1
        subst d1
        have d2 := ready_done hr 2 _ rfl (by simp [Region.binds])
        simp at d2
        subst d2
        have d3 := ready_done hr 3 _ rfl (by simp [Region.binds])
        have d4 := ready_done hr 4 _ rfl (by simp [Region.binds])
        simp at d3 d4
        subst d3 d4
        have d5 := ready_done hr 5 _ rfl (by simp [Region.binds])
        simp at d5
        subst d5
        have d6 := ready_done hr 6 _ rfl (by simp [Region.binds])
        simp at d6
        subst d6
        have d7 := ready_done hr 7 _ rfl (by simp [Region.binds])
        simp at d7
        subst d7
        have d8 := ready_done hr 8 _ rfl (by simp [Region.binds])
        simp at d8
        subst d8
        obtain rfl := (h0.out rfl).symm
        obtain rfl := (h1.out rfl).symm
        obtain rfl := (h2.out rfl).symm
        obtain rfl := (h3.out rfl).symm
        obtain rfl := (h4.out rfl).symm
        obtain rfl := (h5.out rfl).symm
        obtain rfl := (h6.out rfl).symm
        obtain rfl := (h7.out rfl).symm
        obtain rfl := (h8.out rfl).symm
        simp only [Act.put, List.setIfInBounds_toArray, List.set_cons_zero, List.set_cons_succ]
        clear hr h0 h1 h2 h3 h4 h5 h6 h7 h8
        have HB2 := Lib.hid hB
        clear hB
        revert HB2
        generalize W = W3
        intro HB2
        go_upto_region 3 with fail
        have HBz := Lib.hid (HBw.out.trans (HB2.out.mono HBw.out.size))
        obtain ⟨⟨t0, t1⟩, _⟩ := HX.out W3 HB2.out
        obtain ⟨_, _, _, f0, f1, g0, g1⟩ := HA.out W3 HBz.out
        have CR := Lib.hid (HCR.out W3 HBz.out)
        clear HX HB2 HA HCR CT CL
        go_wp2_with fail
        refine CR.out.mono ?_
        rintro e w4 ⟨⟨T, x, rfl⟩, hb4⟩
        have HB4 := Lib.hid (HBz.out.trans (hb4.mono HBz.out.size))
        clear hb4
        go_wp2
        exact ⟨rfl, ⟨T, x, rfl⟩, HB4.out⟩
      · have HK1 := Lib.hid (show ¬ i < e2 from by omega)
        clear hnx HBx k1
        go_enter Tryd.func65, Tryd.ntmps65
        go_upto_region 1 with fail
        go_wp2_with fail
        refine (CT.out _).mono ?_
        rintro e w1 ⟨rfl, hb1⟩
        have hbA := hb1.alloc hb1.size (.cells #[.int .i64 c, .int .i64 n] 71)
        have hp := heap_alloc_last w1 (.cells #[.int .i64 c, .int .i64 n] 71)
        have HBw := Lib.hid hbA
        clear q0 q1 q2 q3 q4 q5 q6 hb1
        go_upto_region 2 with fail
        obtain ⟨W2, hW2⟩ : ∃ W2, w1.alloc (.cells #[.int .i64 c, .int .i64 n] 71) = W2 := ⟨_, rfl⟩
        obtain ⟨pq, hpq⟩ : ∃ p, w1.heap.size = p := ⟨_, rfl⟩
        rw [hW2] at hp HBw
        rw [hpq] at hp
        have HW2 := Lib.hid hW2
        have HPt := Lib.hid hpq
        rw [HW2.out, HPt.out]
        have HX : Hid (∀ W, Below W2.heap.size W2 W → (W.cell? ⟨pq, 0, none⟩ = some (.int .i64 c) ∧ W.cell? ⟨pq, 1, none⟩ = some (.int .i64 n)) ∧ W.cell? ⟨pi, 0, none⟩ = some (.int .i64 (i)) ∧ True) := fun W hb =>
          ⟨⟨cell_kept hb (by rw [Joins.cell_of_block hp 0]; rfl), cell_kept hb (by rw [Joins.cell_of_block hp 1]; rfl)⟩, (HA.out W (HBw.out.trans (hb.mono HBw.out.size))).2.2.1, trivial⟩
        have k1 : ¬ i < e2 := by have := HK1.out; omega
        have CN : Hid (∀ W, Below W2.heap.size W2 W → Calls Tryd.prog 53 #[.bool false] W fun e w' => (∃ T x, e = .panicked [{ v := .iface T x, recovered := false }]) ∧ w' = W) := fun W hb => HCN.out W (HBw.out.trans (hb.mono HBw.out.size))
        clear hp hbA hW2 hpq
        refine wp_region_inv_at (by kernel_rfl) (fun A0 L A W => ∃ (b0 b1 b2 b3 b4 b5 b6 b7 b8 : Bool) (v13 v14 v15 v16 v17 v18 v19 v20 v21 : Value), L = #[b0, b1, b2, b3, b4, b5, b6, b7, b8] ∧ A = (((((((((A0.put (some 13) v13).put (some 14) v14).put (some 15) v15).put (some 16) v16).put (some 17) v17).put (some 18) v18).put (some 19) v19).put (some 20) v20).put (some 21) v21) ∧ (Below W2.heap.size W2 W) ∧ Hid (b0 = true → v13 = .int .i64 i) ∧ Hid (b1 = true → v14 = .bool true) ∧ Hid (b2 = true → v15 = .bool true) ∧ Hid (b3 = true → v16 = .int .i64 i) ∧ Hid (b4 = true → v17 = .agg #[.int .i64 c, .int .i64 n]) ∧ Hid (b5 = true → v18 = .int .i64 e2) ∧ Hid (b6 = true → v19 = .bool false) ∧ Hid (b7 = true → v20 = .bool false) ∧ Hid (b8 = true → False)) ?_ ?_ ?_
        · intro A0
          refine ⟨false, false, false, false, false, false, false, false, false, A0.tmps.getD 13 undef, A0.tmps.getD 14 undef, A0.tmps.getD 15 undef, A0.tmps.getD 16 undef, A0.tmps.getD 17 undef, A0.tmps.getD 18 undef, A0.tmps.getD 19 undef, A0.tmps.getD 20 undef, A0.tmps.getD 21 undef, rfl, (by simp only [put_self]), (Below.refl _ _).drew, Lib.hid (fun hf => by cases hf), Lib.hid (fun hf => by cases hf), Lib.hid (fun hf => by cases hf), Lib.hid (fun hf => by cases hf), Lib.hid (fun hf => by cases hf), Lib.hid (fun hf => by cases hf), Lib.hid (fun hf => by cases hf), Lib.hid (fun hf => by cases hf), Lib.hid (fun hf => by cases hf)⟩
        · intro L A W hI i hi o ho K' hK
          have hlt := (ready_left hi).1
          have hun := (ready_left hi).2
          have haf := ready_after hi ho
          clear hi
          obtain ⟨b0, b1, b2, b3, b4, b5, b6, b7, b8, v13, v14, v15, v16, v17, v18, v19, v20, v21, rfl, rfl, hB, h0, h1, h2, h3, h4, h5, h6, h7, h8⟩ := hI
          have hc : i = 0 ∨ i = 1 ∨ i = 2 ∨ i = 3 ∨ i = 4 ∨ i = 5 ∨ i = 6 ∨ i = 7 ∨ i = 8 := by
            simp at hlt
            omega
          have qq := HX.out W hB
          obtain ⟨q0, q1, q2⟩ := qq
          rcases hc with rfl | rfl | rfl | rfl | rfl | rfl | rfl | rfl | rfl
          all_goals (obtain rfl := Option.some.inj ho; clear ho; simp [Region.binds] at haf hun; (try simp only [List.getElem_toArray, List.getElem_cons_zero, List.getElem_cons_succ]); simp only [Act.put, List.setIfInBounds_toArray, List.set_cons_zero, List.set_cons_succ])
          · -- operation 0
            replace hK := Lib.hid hK
            subst hun
            go_simp
            exact hK.out _ _ ⟨true, b1, b2, b3, b4, b5, b6, b7, b8, .int .i64 i, v14, v15, v16, v17, v18, v19, v20, v21, rfl, (by simp only [Act.put, List.setIfInBounds_toArray, List.set_cons_zero, List.set_cons_succ]), hB, Lib.hid (fun _ => rfl), h1, h2, h3, h4, h5, h6, h7, h8⟩
          · -- operation 1
            replace hK := Lib.hid hK
            obtain rfl := (h0.out (by simp only [haf])).symm
            subst hun
            go_simp
            exact hK.out _ _ ⟨b0, true, b2, b3, b4, b5, b6, b7, b8, .int .i64 i, .bool true, v15, v16, v17, v18, v19, v20, v21, rfl, (by simp only [Act.put, List.setIfInBounds_toArray, List.set_cons_zero, List.set_cons_succ]), hB, Lib.hid (fun _ => rfl), Lib.hid (fun _ => rfl), h2, h3, h4, h5, h6, h7, h8⟩
          · -- operation 2
            replace hK := Lib.hid hK
            obtain rfl := (h1.out (by simp only [haf])).symm
            subst hun
            go_simp
            exact hK.out _ _ ⟨b0, b1, true, b3, b4, b5, b6, b7, b8, v13, .bool true, .bool true, v16, v17, v18, v19, v20, v21, rfl, (by simp only [Act.put, List.setIfInBounds_toArray, List.set_cons_zero, List.set_cons_succ]), hB, h0, Lib.hid (fun _ => rfl), Lib.hid (fun _ => rfl), h3, h4, h5, h6, h7, h8⟩
          · -- operation 3
            replace hK := Lib.hid hK
            obtain rfl := (h2.out (by simp only [haf])).symm
            subst hun
            go_simp
            exact hK.out _ _ ⟨b0, b1, b2, true, b4, b5, b6, b7, b8, v13, v14, .bool true, .int .i64 i, v17, v18, v19, v20, v21, rfl, (by simp only [Act.put, List.setIfInBounds_toArray, List.set_cons_zero, List.set_cons_succ]), hB, h0, h1, Lib.hid (fun _ => rfl), Lib.hid (fun _ => rfl), h4, h5, h6, h7, h8⟩
          · -- operation 4
            replace hK := Lib.hid hK
            obtain rfl := (h2.out (by simp only [haf])).symm
            subst hun
            go_simp
            exact hK.out _ _ ⟨b0, b1, b2, b3, true, b5, b6, b7, b8, v13, v14, .bool true, v16, .agg #[.int .i64 c, .int .i64 n], v18, v19, v20, v21, rfl, (by simp only [Act.put, List.setIfInBounds_toArray, List.set_cons_zero, List.set_cons_succ]), hB, h0, h1, Lib.hid (fun _ => rfl), h3, Lib.hid (fun _ => rfl), h5, h6, h7, h8⟩
          · -- operation 5
            replace hK := Lib.hid hK
            obtain rfl := (h2.out (by simp only [haf])).symm
            obtain rfl := (h4.out (by simp only [haf])).symm
            subst hun
            go_simp
            refine (CL.out W).mono ?_
            rintro e W' ⟨rfl, hb⟩
            have hkept := fun kb (hk : kb < W.heap.size) => hb.block kb hk
            exact hK.out _ _ ⟨b0, b1, b2, b3, b4, true, b6, b7, b8, v13, v14, .bool true, v16, .agg #[.int .i64 c, .int .i64 n], .int .i64 e2, v19, v20, v21, rfl, (by simp only [Act.put, List.setIfInBounds_toArray, List.set_cons_zero, List.set_cons_succ]), hB.trans (hb.mono hB.size), h0, h1, Lib.hid (fun _ => rfl), h3, Lib.hid (fun _ => rfl), Lib.hid (fun _ => rfl), h6, h7, h8⟩
          · -- operation 6
            replace hK := Lib.hid hK
            obtain rfl := (h2.out (by simp only [haf])).symm
            obtain rfl := (h3.out (by simp only [haf])).symm
            obtain rfl := (h5.out (by simp only [haf])).symm
            subst hun
            go_simp
            exact hK.out _ _ ⟨b0, b1, b2, b3, b4, b5, true, b7, b8, v13, v14, .bool true, .int .i64 i, v17, .int .i64 e2, .bool false, v20, v21, rfl, (by simp only [Act.put, List.setIfInBounds_toArray, List.set_cons_zero, List.set_cons_succ]), hB, h0, h1, Lib.hid (fun _ => rfl), Lib.hid (fun _ => rfl), h4, Lib.hid (fun _ => rfl), Lib.hid (fun _ => rfl), h7, h8⟩
          · -- operation 7
            replace hK := Lib.hid hK
            obtain rfl := (h2.out (by simp only [haf])).symm
            obtain rfl := (h6.out (by simp only [haf])).symm
            subst hun
            go_simp
            exact hK.out _ _ ⟨b0, b1, b2, b3, b4, b5, b6, true, b8, v13, v14, .bool true, v16, v17, v18, .bool false, .bool false, v21, rfl, (by simp only [Act.put, List.setIfInBounds_toArray, List.set_cons_zero, List.set_cons_succ]), hB, h0, h1, Lib.hid (fun _ => rfl), h3, h4, h5, Lib.hid (fun _ => rfl), Lib.hid (fun _ => rfl), h8⟩
          · -- operation 8
            replace hK := Lib.hid hK
            obtain rfl := (h7.out (by simp only [haf])).symm
            subst hun
            go_simp
            refine (CN.out W hB).mono ?_
            rintro e W' ⟨⟨T, p, rfl⟩, rfl⟩
            go_wp2
            exact ⟨rfl, ⟨T, p, rfl⟩, HBw.out.trans (hB.mono HBw.out.size)⟩
        intro L A W hI hr
        obtain ⟨b0, b1, b2, b3, b4, b5, b6, b7, b8, v13, v14, v15, v16, v17, v18, v19, v20, v21, rfl, rfl, hB, h0, h1, h2, h3, h4, h5, h6, h7, h8⟩ := hI
        have d0 := ready_done hr 0 _ rfl (by simp [Region.binds])
        simp at d0
        subst d0
        have d1 := ready_done hr 1 _ rfl (by simp [Region.binds])
        simp at d1
        subst d1
        have d2 := ready_done hr 2 _ rfl (by simp [Region.binds])
        simp at d2
        subst d2
        have d3 := ready_done hr 3 _ rfl (by simp [Region.binds])
        have d4 := ready_done hr 4 _ rfl (by simp [Region.binds])
        simp at d3 d4
        subst d3 d4
        have d5 := ready_done hr 5 _ rfl (by simp [Region.binds])
        simp at d5
        subst d5
        have d6 := ready_done hr 6 _ rfl (by simp [Region.binds])
        simp at d6
        subst d6
        have d7 := ready_done hr 7 _ rfl (by simp [Region.binds])
        simp at d7
        subst d7
        have d8 := ready_done hr 8 _ rfl (by simp [Region.binds])
        simp at d8
        subst d8
        exact (h8.out rfl).elim
    · have HK0 := Lib.hid (show ¬ 0 ≤ i from by omega)
      clear hnx HBx k0
      go_enter Tryd.func65, Tryd.ntmps65
      go_upto_region 1 with fail
      go_wp2_with fail
      refine (CT.out _).mono ?_
      rintro e w1 ⟨rfl, hb1⟩
      have hbA := hb1.alloc hb1.size (.cells #[.int .i64 c, .int .i64 n] 71)
      have hp := heap_alloc_last w1 (.cells #[.int .i64 c, .int .i64 n] 71)
      have HBw := Lib.hid hbA
      clear q0 q1 q2 q3 q4 q5 q6 hb1
      go_upto_region 2 with fail
      obtain ⟨W2, hW2⟩ : ∃ W2, w1.alloc (.cells #[.int .i64 c, .int .i64 n] 71) = W2 := ⟨_, rfl⟩
      obtain ⟨pq, hpq⟩ : ∃ p, w1.heap.size = p := ⟨_, rfl⟩
      rw [hW2] at hp HBw
      rw [hpq] at hp
      have HW2 := Lib.hid hW2
      have HPt := Lib.hid hpq
      rw [HW2.out, HPt.out]
      have HX : Hid (∀ W, Below W2.heap.size W2 W → (W.cell? ⟨pq, 0, none⟩ = some (.int .i64 c) ∧ W.cell? ⟨pq, 1, none⟩ = some (.int .i64 n)) ∧ W.cell? ⟨pi, 0, none⟩ = some (.int .i64 (i)) ∧ True) := fun W hb =>
        ⟨⟨cell_kept hb (by rw [Joins.cell_of_block hp 0]; rfl), cell_kept hb (by rw [Joins.cell_of_block hp 1]; rfl)⟩, (HA.out W (HBw.out.trans (hb.mono HBw.out.size))).2.2.1, trivial⟩
      have k0 : ¬ 0 ≤ i := by have := HK0.out; omega
      have CN : Hid (∀ W, Below W2.heap.size W2 W → Calls Tryd.prog 53 #[.bool false] W fun e w' => (∃ T x, e = .panicked [{ v := .iface T x, recovered := false }]) ∧ w' = W) := fun W hb => HCN.out W (HBw.out.trans (hb.mono HBw.out.size))
      clear hp hbA hW2 hpq
      refine wp_region_inv_at (by kernel_rfl) (fun A0 L A W => ∃ (b0 b1 b2 b3 b4 b5 b6 b7 b8 : Bool) (v13 v14 v15 v16 v17 v18 v19 v20 v21 : Value), L = #[b0, b1, b2, b3, b4, b5, b6, b7, b8] ∧ A = (((((((((A0.put (some 13) v13).put (some 14) v14).put (some 15) v15).put (some 16) v16).put (some 17) v17).put (some 18) v18).put (some 19) v19).put (some 20) v20).put (some 21) v21) ∧ (Below W2.heap.size W2 W) ∧ Hid (b0 = true → v13 = .int .i64 i) ∧ Hid (b1 = true → v14 = .bool false) ∧ Hid (b2 = true → v15 = .bool false) ∧ Hid (b3 = true → v16 = undef) ∧ Hid (b4 = true → v17 = undef) ∧ Hid (b5 = true → v18 = undef) ∧ Hid (b6 = true → v19 = undef) ∧ Hid (b7 = true → v20 = .bool false) ∧ Hid (b8 = true → False)) ?_ ?_ ?_
      · intro A0
        refine ⟨false, false, false, false, false, false, false, false, false, A0.tmps.getD 13 undef, A0.tmps.getD 14 undef, A0.tmps.getD 15 undef, A0.tmps.getD 16 undef, A0.tmps.getD 17 undef, A0.tmps.getD 18 undef, A0.tmps.getD 19 undef, A0.tmps.getD 20 undef, A0.tmps.getD 21 undef, rfl, (by simp only [put_self]), (Below.refl _ _).drew, Lib.hid (fun hf => by cases hf), Lib.hid (fun hf => by cases hf), Lib.hid (fun hf => by cases hf), Lib.hid (fun hf => by cases hf), Lib.hid (fun hf => by cases hf), Lib.hid (fun hf => by cases hf), Lib.hid (fun hf => by cases hf), Lib.hid (fun hf => by cases hf), Lib.hid (fun hf => by cases hf)⟩
      · intro L A W hI i hi o ho K' hK
        have hlt := (ready_left hi).1
        have hun := (ready_left hi).2
        have haf := ready_after hi ho
        clear hi
        obtain ⟨b0, b1, b2, b3, b4, b5, b6, b7, b8, v13, v14, v15, v16, v17, v18, v19, v20, v21, rfl, rfl, hB, h0, h1, h2, h3, h4, h5, h6, h7, h8⟩ := hI
        have hc : i = 0 ∨ i = 1 ∨ i = 2 ∨ i = 3 ∨ i = 4 ∨ i = 5 ∨ i = 6 ∨ i = 7 ∨ i = 8 := by
          simp at hlt
          omega
        have qq := HX.out W hB
        obtain ⟨q0, q1, q2⟩ := qq
        rcases hc with rfl | rfl | rfl | rfl | rfl | rfl | rfl | rfl | rfl
        all_goals (obtain rfl := Option.some.inj ho; clear ho; simp [Region.binds] at haf hun; (try simp only [List.getElem_toArray, List.getElem_cons_zero, List.getElem_cons_succ]); simp only [Act.put, List.setIfInBounds_toArray, List.set_cons_zero, List.set_cons_succ])
        · -- operation 0
          replace hK := Lib.hid hK
          subst hun
          go_simp
          exact hK.out _ _ ⟨true, b1, b2, b3, b4, b5, b6, b7, b8, .int .i64 i, v14, v15, v16, v17, v18, v19, v20, v21, rfl, (by simp only [Act.put, List.setIfInBounds_toArray, List.set_cons_zero, List.set_cons_succ]), hB, Lib.hid (fun _ => rfl), h1, h2, h3, h4, h5, h6, h7, h8⟩
        · -- operation 1
          replace hK := Lib.hid hK
          obtain rfl := (h0.out (by simp only [haf])).symm
          subst hun
          go_simp
          exact hK.out _ _ ⟨b0, true, b2, b3, b4, b5, b6, b7, b8, .int .i64 i, .bool false, v15, v16, v17, v18, v19, v20, v21, rfl, (by simp only [Act.put, List.setIfInBounds_toArray, List.set_cons_zero, List.set_cons_succ]), hB, Lib.hid (fun _ => rfl), Lib.hid (fun _ => rfl), h2, h3, h4, h5, h6, h7, h8⟩
        · -- operation 2
          replace hK := Lib.hid hK
          obtain rfl := (h1.out (by simp only [haf])).symm
          subst hun
          go_simp
          exact hK.out _ _ ⟨b0, b1, true, b3, b4, b5, b6, b7, b8, v13, .bool false, .bool false, v16, v17, v18, v19, v20, v21, rfl, (by simp only [Act.put, List.setIfInBounds_toArray, List.set_cons_zero, List.set_cons_succ]), hB, h0, Lib.hid (fun _ => rfl), Lib.hid (fun _ => rfl), h3, h4, h5, h6, h7, h8⟩
        · -- operation 3
          replace hK := Lib.hid hK
          obtain rfl := (h2.out (by simp only [haf])).symm
          subst hun
          go_simp
          exact hK.out _ _ ⟨b0, b1, b2, true, b4, b5, b6, b7, b8, v13, v14, .bool false, undef, v17, v18, v19, v20, v21, rfl, (by simp only [Act.put, List.setIfInBounds_toArray, List.set_cons_zero, List.set_cons_succ]), hB, h0, h1, Lib.hid (fun _ => rfl), Lib.hid (fun _ => rfl), h4, h5, h6, h7, h8⟩
        · -- operation 4
          replace hK := Lib.hid hK
          obtain rfl := (h2.out (by simp only [haf])).symm
          subst hun
          go_simp
          exact hK.out _ _ ⟨b0, b1, b2, b3, true, b5, b6, b7, b8, v13, v14, .bool false, v16, undef, v18, v19, v20, v21, rfl, (by simp only [Act.put, List.setIfInBounds_toArray, List.set_cons_zero, List.set_cons_succ]), hB, h0, h1, Lib.hid (fun _ => rfl), h3, Lib.hid (fun _ => rfl), h5, h6, h7, h8⟩
        · -- operation 5
          replace hK := Lib.hid hK
          obtain rfl := (h2.out (by simp only [haf])).symm
          subst hun
          go_simp
          exact hK.out _ _ ⟨b0, b1, b2, b3, b4, true, b6, b7, b8, v13, v14, .bool false, v16, v17, undef, v19, v20, v21, rfl, (by simp only [Act.put, List.setIfInBounds_toArray, List.set_cons_zero, List.set_cons_succ]), hB, h0, h1, Lib.hid (fun _ => rfl), h3, h4, Lib.hid (fun _ => rfl), h6, h7, h8⟩
        · -- operation 6
          replace hK := Lib.hid hK
          obtain rfl := (h2.out (by simp only [haf])).symm
          subst hun
          go_simp
          exact hK.out _ _ ⟨b0, b1, b2, b3, b4, b5, true, b7, b8, v13, v14, .bool false, v16, v17, v18, undef, v20, v21, rfl, (by simp only [Act.put, List.setIfInBounds_toArray, List.set_cons_zero, List.set_cons_succ]), hB, h0, h1, Lib.hid (fun _ => rfl), h3, h4, h5, Lib.hid (fun _ => rfl), h7, h8⟩
        · -- operation 7
          replace hK := Lib.hid hK
          obtain rfl := (h2.out (by simp only [haf])).symm
          subst hun
          go_simp
          exact hK.out _ _ ⟨b0, b1, b2, b3, b4, b5, b6, true, b8, v13, v14, .bool false, v16, v17, v18, v19, .bool false, v21, rfl, (by simp only [Act.put, List.setIfInBounds_toArray, List.set_cons_zero, List.set_cons_succ]), hB, h0, h1, Lib.hid (fun _ => rfl), h3, h4, h5, h6, Lib.hid (fun _ => rfl), h8⟩
        · -- operation 8
          replace hK := Lib.hid hK
          obtain rfl := (h7.out (by simp only [haf])).symm
          subst hun
          go_simp
          refine (CN.out W hB).mono ?_
          rintro e W' ⟨⟨T, p, rfl⟩, rfl⟩
          go_wp2
          exact ⟨rfl, ⟨T, p, rfl⟩, HBw.out.trans (hB.mono HBw.out.size)⟩
      intro L A W hI hr
      obtain ⟨b0, b1, b2, b3, b4, b5, b6, b7, b8, v13, v14, v15, v16, v17, v18, v19, v20, v21, rfl, rfl, hB, h0, h1, h2, h3, h4, h5, h6, h7, h8⟩ := hI
      have d0 := ready_done hr 0 _ rfl (by simp [Region.binds])
      simp at d0
      subst d0
      have d1 := ready_done hr 1 _ rfl (by simp [Region.binds])
      simp at d1
      subst d1
      have d2 := ready_done hr 2 _ rfl (by simp [Region.binds])
      simp at d2
      subst d2
      have d3 := ready_done hr 3 _ rfl (by simp [Region.binds])
      have d4 := ready_done hr 4 _ rfl (by simp [Region.binds])
      simp at d3 d4
      subst d3 d4
      have d5 := ready_done hr 5 _ rfl (by simp [Region.binds])
      simp at d5
      subst d5
      have d6 := ready_done hr 6 _ rfl (by simp [Region.binds])
      simp at d6
      subst d6
      have d7 := ready_done hr 7 _ rfl (by simp [Region.binds])
      simp at d7
      subst d7
      have d8 := ready_done hr 8 _ rfl (by simp [Region.binds])
      simp at d8
      subst d8
      exact (h8.out rfl).elim

theorem call_Next1 : ∀ args (W : World), (callFunc 65 args).run Tryd.prog W = .ok (.enter 65 args) W := by
  intro args W
  first | (go_simp; done) | (simp [callFunc, go_sem]; done) | kernel_rfl

set_option maxHeartbeats 4000000 in
set_option maxRecDepth 100000 in
theorem impl_NextInBox (c n ax ay bx b_y i : Int) (w : World) (hn : NoRes w) (hQ : QvP w) :
    Calls Tryd.prog 16 #[.int .i64 c, .int .i64 n, .agg #[.int .i64 ax, .int .i64 ay], .agg #[.int .i64 bx, .int .i64 b_y], .int .i64 i] w (SaysIOk (((nbO c n ax ay bx b_y i).getD 0 : Nat) : Int) (nbO c n ax ay bx b_y i).isSome w) := by
  obtain ⟨W0, hW0⟩ : ∃ W0, (((((w.alloc (.cells #[.int .i64 c] 2)).alloc (.cells #[.int .i64 n] 2)).alloc (.cells #[.int .i64 ax, .int .i64 ay] 29)).alloc (.cells #[.int .i64 bx, .int .i64 b_y] 29)).alloc (.cells #[.int .i64 i] 2)) = W0 := ⟨_, rfl⟩
  have b0 : Below w.heap.size w W0 := by rw [← hW0]; exact (((Joins.below_alloc3 w _ _ _).alloc (by first | (simp; done) | (simp; omega)) _).alloc (by first | (simp; done) | (simp; omega)) _)
  have h0 : W0.heap[w.heap.size]? = some (.cells #[.int .i64 c] 2 (0, 0)) := by
    rw [← hW0]
    rw [Below.heap_alloc _ _ _ (by first | (simp; done) | (simp; omega)), Below.heap_alloc _ _ _ (by first | (simp; done) | (simp; omega)), Below.heap_alloc _ _ _ (by first | (simp; done) | (simp; omega)), Below.heap_alloc _ _ _ (by simp)]; exact heap_alloc_last w _
  have h1 : W0.heap[w.heap.size + 1]? = some (.cells #[.int .i64 n] 2 (0, 0)) := by
    rw [← hW0, Below.heap_alloc _ _ _ (by first | (simp; done) | (simp; omega)), Below.heap_alloc _ _ _ (by first | (simp; done) | (simp; omega)), Below.heap_alloc _ _ _ (by simp)]
    exact heap_alloc2_new _ _ _
  have h2 : W0.heap[w.heap.size + 1 + 1]? = some (.cells #[.int .i64 ax, .int .i64 ay] 29 (0, 0)) := by
    rw [← hW0, Below.heap_alloc _ _ _ (by first | (simp; done) | (simp; omega)), Below.heap_alloc _ _ _ (by simp)]
    have := heap_alloc_last ((w.alloc (.cells #[.int .i64 c] 2)).alloc (.cells #[.int .i64 n] 2)) (.cells #[.int .i64 ax, .int .i64 ay] 29)
    simpa only [World.size_alloc] using this
  have h3 : W0.heap[w.heap.size + 1 + 1 + 1]? = some (.cells #[.int .i64 bx, .int .i64 b_y] 29 (0, 0)) := by
    rw [← hW0, Below.heap_alloc _ _ _ (by simp)]
    have := heap_alloc_last (((w.alloc (.cells #[.int .i64 c] 2)).alloc (.cells #[.int .i64 n] 2)).alloc (.cells #[.int .i64 ax, .int .i64 ay] 29)) (.cells #[.int .i64 bx, .int .i64 b_y] 29)
    simpa only [World.size_alloc] using this
  have h4 : W0.heap[w.heap.size + 1 + 1 + 1 + 1]? = some (.cells #[.int .i64 i] 2 (0, 0)) := by
    rw [← hW0]
    have := heap_alloc_last ((((w.alloc (.cells #[.int .i64 c] 2)).alloc (.cells #[.int .i64 n] 2)).alloc (.cells #[.int .i64 ax, .int .i64 ay] 29)).alloc (.cells #[.int .i64 bx, .int .i64 b_y] 29)) (.cells #[.int .i64 i] 2)
    simpa only [World.size_alloc] using this
  have HF : At5 W0 w.heap.size (w.heap.size + 1) (w.heap.size + 1 + 1 + 1 + 1) (w.heap.size + 1 + 1) (w.heap.size + 1 + 1 + 1) c n i ax ay bx b_y :=
    ⟨cell_of_one h0, cell_of_one h1, cell_of_one h4, by rw [Joins.cell_of_block h2 0]; rfl, by rw [Joins.cell_of_block h2 1]; rfl, by rw [Joins.cell_of_block h3 0]; rfl, by rw [Joins.cell_of_block h3 1]; rfl⟩
  have hmf : ∀ (fn : Fn) (first cap : Array Value) (w : World), (Instr.makeFunc fn first cap).run Tryd.prog w = .ok (.func fn first cap) w := fun _ _ _ _ => rfl
  have B0 := Lib.hid b0
  have HW := Lib.hid hW0
  cases hO : nbO c n ax ay bx b_y i with
  | some m =>
    have hP : nbP c n ax ay bx b_y i = true := by
      cases hh : nbP c n ax ay bx b_y i with
      | true => rfl
      | false => unfold nbO at hO; rw [if_neg (by rw [hh]; decide)] at hO; cases hO
    have C := Lib.hid (attemptI_yes 65 #[.pointer (some ⟨w.heap.size, 0, none⟩), .pointer (some ⟨w.heap.size + 1, 0, none⟩), .pointer (some ⟨w.heap.size + 1 + 1 + 1 + 1, 0, none⟩), .pointer (some ⟨w.heap.size + 1 + 1, 0, none⟩), .pointer (some ⟨w.heap.size + 1 + 1 + 1, 0, none⟩)] W0 (fun u W w' => u = .int .i64 (m : Int)) call_Next1 (fun W hb => (nextWork w.heap.size (w.heap.size + 1) (w.heap.size + 1 + 1 + 1 + 1) (w.heap.size + 1 + 1) (w.heap.size + 1 + 1 + 1) c n i ax ay bx b_y W (HF.kept hb) ((hQ.below b0).below hb) ((hn.below b0).below hb) hP).mono (fun e w' ⟨he, hb⟩ => by
      rcases he with ⟨m', hm', he⟩ | ⟨hm', _⟩
      · rw [hO] at hm'
        injection hm' with hm'
        subst hm'
        exact ⟨_, he, rfl, hb⟩
      · rw [hO] at hm'; cases hm')))
    show Calls _ _ _ _ (SaysIOk (m : Int) true w)
    clear hn hQ hO hP HF b0 h0 h1 h2 h3 h4 hW0
    go_enter Tryd.func16, Tryd.ntmps16
    go_upto_region 1 with fail
    rw [HW.out]
    go_wp2_with fail
    refine C.out.mono ?_
    rintro e w1 ⟨r, w2, rfl, hQ, hb, rfl, r1, r2⟩
    obtain rfl : r = (m : Int) := by injection hQ
    have hs := B0.out.size
    have HB := Lib.hid (((B0.out.trans (hb.mono hs)).setCell (p := ⟨W0.heap.size, 0, none⟩) hs (.int .i64 (m : Int))).setCell (p := ⟨W0.heap.size + 1, 0, none⟩) (by show w.heap.size ≤ W0.heap.size + 1; omega) (.bool true))
    clear hQ hb r1 r2
    go_wp2_with fail
    go_ret2
    exact ⟨rfl, HB.out⟩
  | none =>
    have C := Lib.hid (attemptI_no 65 #[.pointer (some ⟨w.heap.size, 0, none⟩), .pointer (some ⟨w.heap.size + 1, 0, none⟩), .pointer (some ⟨w.heap.size + 1 + 1 + 1 + 1, 0, none⟩), .pointer (some ⟨w.heap.size + 1 + 1, 0, none⟩), .pointer (some ⟨w.heap.size + 1 + 1 + 1, 0, none⟩)] W0 call_Next1 (fun W hb => by
      cases hP : nbP c n ax ay bx b_y i with
      | true =>
        refine (nextWork w.heap.size (w.heap.size + 1) (w.heap.size + 1 + 1 + 1 + 1) (w.heap.size + 1 + 1) (w.heap.size + 1 + 1 + 1) c n i ax ay bx b_y W (HF.kept hb) ((hQ.below b0).below hb) ((hn.below b0).below hb) hP).mono (fun e w' ⟨he, hb⟩ => ?_)
        rcases he with ⟨m', hm', _⟩ | ⟨_, he⟩
        · rw [hO] at hm'; cases hm'
        · exact ⟨he, hb⟩
      | false => exact nextWork_no w.heap.size (w.heap.size + 1) (w.heap.size + 1 + 1 + 1 + 1) (w.heap.size + 1 + 1) (w.heap.size + 1 + 1 + 1) c n i ax ay bx b_y W (HF.kept hb) ((hn.below b0).below hb) hP))
    show Calls _ _ _ _ (SaysIOk 0 false w)
    clear hn hQ hO HF b0 h0 h1 h2 h3 h4 hW0
    go_enter Tryd.func16, Tryd.ntmps16
    go_upto_region 1 with fail
    rw [HW.out]
    go_wp2_with fail
    refine C.out.mono ?_
    rintro e w1 ⟨rfl, hb⟩
    have HB := Lib.hid (B0.out.trans (hb.mono B0.out.size))
    clear hb
    go_wp2_with fail
    go_ret2
    exact ⟨rfl, HB.out⟩

end Go.Proofs.YtabkkpifkkgpeaaDoor
