/- Contracts of single functions, and plain lemmas, on which the exact laws of this seat rest; each holds under the conditions that it states. -/
import Derived.Test.YthblhibkbcmbaaaDoorCV5
import Derived.Test.YthblhibkbcmbaaaDoorCV2
import Derived.Test.YthblhibkbcmbaaaDoorTd
import Derived.Test.YthblhibkbcmbaaaDoorGD
import Derived.Test.YthblhibkbcmbaaaDoorQb
namespace Go.Proofs.YthblhibkbcmbaaaDoor
set_option linter.unusedVariables false
set_option linter.unusedSimpArgs false
open Go.RowKit
attribute [local go_sem] Oper.semAt_some

theorem sd_nat (n : Nat) : sd (n : Int) = ((2 ^ n : Nat) : Int) := by
  unfold sd
  rw [Int.toNat_natCast, Int.natCast_pow]
  rfl
theorem sq_mat (n : Nat) : mcells (sd (n : Int)) (sd (n : Int)) (fun _ => 0) = mat (2 ^ n) (2 ^ n) (fun _ => 0) := by
  rw [sd_nat]
  rfl
theorem pow_le16 {n : Nat} (h : n ≤ 4) : 2 ^ n ≤ 16 := by have := Nat.pow_le_pow_right (n := 2) (by omega) h; omega
set_option maxHeartbeats 1000000 in
set_option maxRecDepth 100000 in
theorem square_any (c n : Int) (w : World) (h0 : 0 ≤ n) (h4 : n ≤ 4) : Calls Tryd.prog 67 #[.agg #[.int .i64 c, .int .i64 n]] w (fun e w' => e = .returned (.agg (mcells (sd n) (sd n) (fun _ => 0))) ∧ Below w.heap.size w w') := by
  have CQ := Lib.hid (fun W => squareOf_any n W h0 h4)
  obtain ⟨d, hd⟩ : ∃ d, sd n = d := ⟨_, rfl⟩
  rw [hd] at CQ ⊢
  have HI4 : Hid ((Tryd.prog.info? 59).map (·.size) = some (mcells d d (fun _ => 0)).size) := infoM
  have HI5 : Hid (zeros.size = (mcells d d (fun _ => 0)).size) := rfl
  have HI6 : Hid ((mcells d d (fun _ => 0)).all (·.oneCell') = true) := mcells_one d d (fun _ => 0)
  obtain ⟨C0, hC0⟩ : ∃ C, mcells d d (fun _ => 0) = C := ⟨_, rfl⟩
  rw [hC0] at CQ HI4 HI5 HI6 ⊢
  obtain ⟨W0, hW0⟩ : ∃ W0, (w.alloc (.cells #[.int .i64 c, .int .i64 n] 66)).alloc (.cells #[.int .i64 0, .int .i64 0, .int .u32 0, .int .u32 0, .int .u32 0, .int .u32 0, .int .u32 0, .int .u32 0, .int .u32 0, .int .u32 0, .int .u32 0, .int .u32 0, .int .u32 0, .int .u32 0, .int .u32 0, .int .u32 0, .int .u32 0, .int .u32 0] 59) = W0 := ⟨_, rfl⟩
  have hz : zeros = #[.int .i64 0, .int .i64 0, .int .u32 0, .int .u32 0, .int .u32 0, .int .u32 0, .int .u32 0, .int .u32 0, .int .u32 0, .int .u32 0, .int .u32 0, .int .u32 0, .int .u32 0, .int .u32 0, .int .u32 0, .int .u32 0, .int .u32 0, .int .u32 0] := rfl
  have hb0 : Below w.heap.size w W0 := by rw [← hW0]; exact Joins.below_alloc2 _ _ _
  have hp0 : W0.heap[w.heap.size]? = some (.cells #[.int .i64 c, .int .i64 n] 66 (0, 0)) := by
    rw [← hW0, Below.heap_alloc _ _ _ (by simp)]; exact heap_alloc_last w _
  have hr0 : W0.heap[w.heap.size + 1]? = some (.cells zeros 59 (0, 0)) := by rw [← hW0, hz]; exact heap_alloc2_new _ _ _
  have HW0 := Lib.hid hW0
  have HB0 := Lib.hid hb0
  have c1 : W0.cell? ⟨w.heap.size, 1, none⟩ = some (.int .i64 n) := by rw [Joins.cell_of_block hp0 1]; rfl
  have KR : Hid (∀ W, Below W0.heap.size W0 W → W.heap[w.heap.size + 1]? = some (.cells zeros 59 (0, 0))) := fun W hb => (hb.block _ (Array.getElem?_eq_some_iff.1 hr0).1).trans hr0
  clear hW0 hz hr0 hp0 hb0 hC0 hd
  go_enter Tryd.func67, Tryd.ntmps67
  go_upto_region 1 with fail
  rw [HW0.out]
  go_wp2_with fail
  refine (CQ.out _).mono ?_
  rintro e w1 ⟨rfl, hb1⟩
  have R1 := Lib.hid (KR.out w1 hb1)
  have B1 := Lib.hid (HB0.out.trans (hb1.mono HB0.out.size))
  clear hb1 c1
  go_wp2_with (refine wpList_store_row rfl 59 _ _ rfl (w.heap.size + 1) C0 rfl rfl 59 zeros R1.out HI4.out HI5.out HI6.out ?_)
  exact bodyPost_ret (results_cell1 (p := 2) (ty := 59) Tryd.results67 _ _ (w.heap.size + 1) 59 C0 (0, 0) _ rfl (setRow_heap _ _ _ _ _ _ R1.out) Tryd.underlying59 rfl HI4.out) rfl ⟨rfl, setRow_below B1.out (by omega) _⟩

set_option maxHeartbeats 2000000 in
set_option maxRecDepth 100000 in
theorem index_any (c n x y : Nat) (w : World) (hc : c < 4) (hn : n ≤ 4) (hx : x < 2 ^ n) (hy : y < 2 ^ n) (hQ : QvP w) : Calls Tryd.prog 76 #[.agg #[.int .i64 (c : Int), .int .i64 (n : Int)], .agg #[.int .i64 (x : Int), .int .i64 (y : Int)]] w (fun e w' => e = .returned (.int .i64 (ixI c n x y)) ∧ Below w.heap.size w w') := by
  have h16 := pow_le16 hn
  obtain ⟨W0, hW0⟩ : ∃ W0, ((w.alloc (.cells #[.int .i64 (c : Int), .int .i64 (n : Int)] 66)).alloc (.cells #[.int .i64 (x : Int), .int .i64 (y : Int)] 76)) = W0 := ⟨_, rfl⟩
  have ts := ts_start w c n x y
  rw [hW0] at ts
  have HX := Lib.hid ts.cells
  have HB0 := Lib.hid ts.b
  have HW := Lib.hid hW0
  have CF : Hid (∀ m : Nat, m < 5 → Calls Tryd.prog 84 #[.agg #[.int .i64 (c : Int), .int .i64 (n : Int)], .agg #[.int .i64 (x : Int), .int .i64 (y : Int)], .int .i64 (m : Int)] W0 (fun e w' => e = .returned (.int .i64 (qF n m 0 x y)) ∧ Below W0.heap.size W0 w')) := fun m hm => quarterIndex_any c n x y m W0 (by omega) (by omega) hn hm (hQ.below ts.b)
  have HE : Hid (ixI c n x y = if c = 2 then qF n 0 0 x y else if c = 3 then qF n 1 0 x y else if c = 1 ∧ y % 2 = 1 then rwI n (2 ^ n - 1 - x) y else rwI n x y) := rfl
  obtain ⟨v, hv⟩ : ∃ v, ixI c n x y = v := ⟨_, rfl⟩
  rw [hv] at HE ⊢
  obtain ⟨q0, q1, q2, q3⟩ := ts.cells W0 (Below.refl _ _)
  obtain ⟨ci, hci⟩ : ∃ i : Int, (c : Int) = i := ⟨_, rfl⟩
  rw [hci] at HX CF HW q0 ⊢
  clear hW0 ts hv hQ
  by_cases h2 : c = 2
  · subst h2
    obtain rfl : ci = 2 := by omega
    have C := Lib.hid (CF.out 0 (by omega))
    have HV : Hid (qF n 0 0 x y = v) := HE.out.symm
    rw [HV.out] at C
    clear HE CF hci
    go_enter Tryd.func76, Tryd.ntmps76
    go_upto_region 1 with fail
    rw [HW.out]
    go_wp2_with fail
    refine C.out.mono ?_
    rintro e w1 ⟨rfl, hb⟩
    have B1 := Lib.hid (HB0.out.trans (hb.mono HB0.out.size))
    clear hb
    go_wp2
    go_ret
    exact ⟨rfl, B1.out⟩
  · by_cases h3 : c = 3
    · subst h3
      obtain rfl : ci = 3 := by omega
      have C := Lib.hid (CF.out 1 (by omega))
      have HV : Hid (qF n 1 0 x y = v) := HE.out.symm
      rw [HV.out] at C
      clear HE CF hci
      go_enter Tryd.func76, Tryd.ntmps76
      go_upto_region 1 with fail
      rw [HW.out]
      go_wp2_with fail
      refine C.out.mono ?_
      rintro e w1 ⟨rfl, hb⟩
      have B1 := Lib.hid (HB0.out.trans (hb.mono HB0.out.size))
      clear hb
      go_wp2
      go_ret
      exact ⟨rfl, B1.out⟩
    · have k2 : ¬ ci = 2 := by omega
      have k3 : ¬ ci = 3 := by omega
      by_cases h1 : c = 1 ∧ y % 2 = 1
      · obtain ⟨rfl, hy1⟩ := h1
        obtain rfl : ci = 1 := by omega
        have HV : Hid (rwI n (2 ^ n - 1 - x) y = v) := by show _ = _; rw [HE.out, if_neg h2, if_neg h3, if_pos ⟨rfl, hy1⟩]
        have CQ := Lib.hid (fun W => square_any 1 (n : Int) W (by omega) (by omega))
        rw [sq_mat] at CQ
        have CT : Hid (∀ W, Calls Tryd.prog 86 #[.agg (mat (2 ^ n) (2 ^ n) (fun _ => 0)), .int .i64 0, .int .i64 (x : Int), .int .i64 (y : Int)] W (fun e w' => e = .returned (.agg #[.int .i64 ((2 ^ n - 1 - x : Nat) : Int), .int .i64 (y : Int)]) ∧ Below W.heap.size W w')) := fun W => by
          have := turnedSpot_0 _ (2 ^ n) (2 ^ n) (fun _ => 0) (x : Int) (y : Int) W rfl h16 h16 ⟨by omega, by omega⟩ ⟨by omega, by omega⟩
          rwa [show (((2 ^ n : Nat) : Int) - 1 - (x : Int)) = ((2 ^ n - 1 - x : Nat) : Int) from by omega] at this
        have CW := Lib.hid (fun W => rowIndex_any 1 n (2 ^ n - 1 - x) y W hn)
        rw [HV.out, hci] at CW
        obtain ⟨C, hC⟩ : ∃ C, mat (2 ^ n) (2 ^ n) (fun _ => 0) = C := ⟨_, rfl⟩
        obtain ⟨xm, hxm⟩ : ∃ k, 2 ^ n - 1 - x = k := ⟨_, rfl⟩
        rw [hC] at CQ CT
        rw [hxm] at CT CW
        have ky : (y : Int) % 2 = 1 := by omega
        have ky2 : Int.tmod (y : Int) 2 = 1 := by rw [Int.tmod_eq_emod_of_nonneg (by omega)]; exact ky
        clear HE CF hC hxm h2 h3 hx hy h16 hci k2 k3
        go_enter Tryd.func76, Tryd.ntmps76
        go_upto_region 1 with fail
        rw [HW.out]
        go_upto_region 6 with fail
        refine wp_region_inv_at (by kernel_rfl) (fun A0 L A W => ∃ (b0 b1 b2 b3 b4 b5 b6 b7 b8 b9 : Bool) (v29 v30 v31 v32 v33 v34 v35 v36 v37 v4 : Value), L = #[b0, b1, b2, b3, b4, b5, b6, b7, b8, b9] ∧ A = ((((((((((A0.put (some 29) v29).put (some 30) v30).put (some 31) v31).put (some 32) v32).put (some 33) v33).put (some 34) v34).put (some 35) v35).put (some 36) v36).put (some 37) v37).put (some 4) v4) ∧ (Below W0.heap.size W0 W) ∧ Hid (b0 = true → v29 = .agg #[.int .i64 1, .int .i64 (n : Int)]) ∧ Hid (b1 = true → v30 = .agg #[.int .i64 1, .int .i64 (n : Int)]) ∧ Hid (b2 = true → v31 = .agg C) ∧ Hid (b3 = true → v32 = .pointer (some ⟨w.heap.size + 1, 0, none⟩)) ∧ Hid (b4 = true → v33 = .int .i64 (x : Int)) ∧ Hid (b5 = true → v34 = .pointer (some ⟨w.heap.size + 1, 1, none⟩)) ∧ Hid (b6 = true → v35 = .int .i64 (y : Int)) ∧ Hid (b7 = true → v36 = .agg #[.int .i64 (xm : Int), .int .i64 (y : Int)]) ∧ Hid (b8 = true → v37 = .int .i64 v) ∧ Hid (b9 = true → v4 = .int .i64 v)) ?_ ?_ ?_
        · intro A0
          refine ⟨false, false, false, false, false, false, false, false, false, false, A0.tmps.getD 29 undef, A0.tmps.getD 30 undef, A0.tmps.getD 31 undef, A0.tmps.getD 32 undef, A0.tmps.getD 33 undef, A0.tmps.getD 34 undef, A0.tmps.getD 35 undef, A0.tmps.getD 36 undef, A0.tmps.getD 37 undef, A0.tmps.getD 4 undef, rfl, (by simp only [put_self]), (Below.refl _ _).drew, Lib.hid (fun hf => by cases hf), Lib.hid (fun hf => by cases hf), Lib.hid (fun hf => by cases hf), Lib.hid (fun hf => by cases hf), Lib.hid (fun hf => by cases hf), Lib.hid (fun hf => by cases hf), Lib.hid (fun hf => by cases hf), Lib.hid (fun hf => by cases hf), Lib.hid (fun hf => by cases hf), Lib.hid (fun hf => by cases hf)⟩
        · intro L A W hI i hi o ho K' hK
          have hlt := (ready_left hi).1
          have hun := (ready_left hi).2
          have haf := ready_after hi ho
          clear hi
          obtain ⟨b0, b1, b2, b3, b4, b5, b6, b7, b8, b9, v29, v30, v31, v32, v33, v34, v35, v36, v37, v4, rfl, rfl, hB, h0, h1, h2, h3, h4, h5, h6, h7, h8, h9⟩ := hI
          have hc : i = 0 ∨ i = 1 ∨ i = 2 ∨ i = 3 ∨ i = 4 ∨ i = 5 ∨ i = 6 ∨ i = 7 ∨ i = 8 ∨ i = 9 := by
            simp at hlt
            omega
          have q0 := (HX.out W hB).1
          have q1 := (HX.out W hB).2.1
          have q2 := (HX.out W hB).2.2.1
          have q3 := (HX.out W hB).2.2.2
          rcases hc with rfl | rfl | rfl | rfl | rfl | rfl | rfl | rfl | rfl | rfl
          all_goals (obtain rfl := Option.some.inj ho; clear ho; simp [Region.binds] at haf hun; (try simp only [List.getElem_toArray, List.getElem_cons_zero, List.getElem_cons_succ]); simp only [Act.put, List.setIfInBounds_toArray, List.set_cons_zero, List.set_cons_succ])
          · -- operation 0
            replace hK := Lib.hid hK
            subst hun
            go_simp
            exact hK.out _ _ ⟨true, b1, b2, b3, b4, b5, b6, b7, b8, b9, .agg #[.int .i64 1, .int .i64 (n : Int)], v30, v31, v32, v33, v34, v35, v36, v37, v4, rfl, (by simp only [Act.put, List.setIfInBounds_toArray, List.set_cons_zero, List.set_cons_succ]), hB, Lib.hid (fun _ => rfl), h1, h2, h3, h4, h5, h6, h7, h8, h9⟩
          · -- operation 1
            replace hK := Lib.hid hK
            subst hun
            go_simp
            exact hK.out _ _ ⟨b0, true, b2, b3, b4, b5, b6, b7, b8, b9, v29, .agg #[.int .i64 1, .int .i64 (n : Int)], v31, v32, v33, v34, v35, v36, v37, v4, rfl, (by simp only [Act.put, List.setIfInBounds_toArray, List.set_cons_zero, List.set_cons_succ]), hB, h0, Lib.hid (fun _ => rfl), h2, h3, h4, h5, h6, h7, h8, h9⟩
          · -- operation 2
            replace hK := Lib.hid hK
            obtain rfl := h1.out (by simp only [haf])
            subst hun
            go_simp
            refine (CQ.out W).mono ?_
            rintro e W' ⟨rfl, hb⟩
            have hkept := fun kb (hk : kb < W.heap.size) => hb.block kb hk
            exact hK.out _ _ ⟨b0, b1, true, b3, b4, b5, b6, b7, b8, b9, v29, .agg #[.int .i64 1, .int .i64 (n : Int)], .agg C, v32, v33, v34, v35, v36, v37, v4, rfl, (by simp only [Act.put, List.setIfInBounds_toArray, List.set_cons_zero, List.set_cons_succ]), hB.trans (hb.mono hB.size), h0, Lib.hid (fun _ => rfl), Lib.hid (fun _ => rfl), h3, h4, h5, h6, h7, h8, h9⟩
          · -- operation 3
            replace hK := Lib.hid hK
            subst hun
            go_simp
            exact hK.out _ _ ⟨b0, b1, b2, true, b4, b5, b6, b7, b8, b9, v29, v30, v31, .pointer (some ⟨w.heap.size + 1, 0, none⟩), v33, v34, v35, v36, v37, v4, rfl, (by simp only [Act.put, List.setIfInBounds_toArray, List.set_cons_zero, List.set_cons_succ]), hB, h0, h1, h2, Lib.hid (fun _ => rfl), h4, h5, h6, h7, h8, h9⟩
          · -- operation 4
            replace hK := Lib.hid hK
            obtain rfl := h3.out (by simp only [haf])
            subst hun
            go_simp
            exact hK.out _ _ ⟨b0, b1, b2, b3, true, b5, b6, b7, b8, b9, v29, v30, v31, .pointer (some ⟨w.heap.size + 1, 0, none⟩), .int .i64 (x : Int), v34, v35, v36, v37, v4, rfl, (by simp only [Act.put, List.setIfInBounds_toArray, List.set_cons_zero, List.set_cons_succ]), hB, h0, h1, h2, Lib.hid (fun _ => rfl), Lib.hid (fun _ => rfl), h5, h6, h7, h8, h9⟩
          · -- operation 5
            replace hK := Lib.hid hK
            subst hun
            go_simp
            exact hK.out _ _ ⟨b0, b1, b2, b3, b4, true, b6, b7, b8, b9, v29, v30, v31, v32, v33, .pointer (some ⟨w.heap.size + 1, 1, none⟩), v35, v36, v37, v4, rfl, (by simp only [Act.put, List.setIfInBounds_toArray, List.set_cons_zero, List.set_cons_succ]), hB, h0, h1, h2, h3, h4, Lib.hid (fun _ => rfl), h6, h7, h8, h9⟩
          · -- operation 6
            replace hK := Lib.hid hK
            obtain rfl := h5.out (by simp only [haf])
            subst hun
            go_simp
            exact hK.out _ _ ⟨b0, b1, b2, b3, b4, b5, true, b7, b8, b9, v29, v30, v31, v32, v33, .pointer (some ⟨w.heap.size + 1, 1, none⟩), .int .i64 (y : Int), v36, v37, v4, rfl, (by simp only [Act.put, List.setIfInBounds_toArray, List.set_cons_zero, List.set_cons_succ]), hB, h0, h1, h2, h3, h4, Lib.hid (fun _ => rfl), Lib.hid (fun _ => rfl), h7, h8, h9⟩
          · -- operation 7
            replace hK := Lib.hid hK
            obtain rfl := h2.out (by simp only [haf])
            obtain rfl := h4.out (by simp only [haf])
            obtain rfl := h6.out (by simp only [haf])
            subst hun
            go_simp
            refine (CT.out W).mono ?_
            rintro e W' ⟨rfl, hb⟩
            have hkept := fun kb (hk : kb < W.heap.size) => hb.block kb hk
            exact hK.out _ _ ⟨b0, b1, b2, b3, b4, b5, b6, true, b8, b9, v29, v30, .agg C, v32, .int .i64 (x : Int), v34, .int .i64 (y : Int), .agg #[.int .i64 (xm : Int), .int .i64 (y : Int)], v37, v4, rfl, (by simp only [Act.put, List.setIfInBounds_toArray, List.set_cons_zero, List.set_cons_succ]), hB.trans (hb.mono hB.size), h0, h1, Lib.hid (fun _ => rfl), h3, Lib.hid (fun _ => rfl), h5, Lib.hid (fun _ => rfl), Lib.hid (fun _ => rfl), h8, h9⟩
          · -- operation 8
            replace hK := Lib.hid hK
            obtain rfl := h0.out (by simp only [haf])
            obtain rfl := h7.out (by simp only [haf])
            subst hun
            go_simp
            refine (CW.out W).mono ?_
            rintro e W' ⟨rfl, hb⟩
            have hkept := fun kb (hk : kb < W.heap.size) => hb.block kb hk
            exact hK.out _ _ ⟨b0, b1, b2, b3, b4, b5, b6, b7, true, b9, .agg #[.int .i64 1, .int .i64 (n : Int)], v30, v31, v32, v33, v34, v35, .agg #[.int .i64 (xm : Int), .int .i64 (y : Int)], .int .i64 v, v4, rfl, (by simp only [Act.put, List.setIfInBounds_toArray, List.set_cons_zero, List.set_cons_succ]), hB.trans (hb.mono hB.size), Lib.hid (fun _ => rfl), h1, h2, h3, h4, h5, h6, Lib.hid (fun _ => rfl), Lib.hid (fun _ => rfl), h9⟩
          · -- operation 9
            replace hK := Lib.hid hK
            obtain rfl := h8.out (by simp only [haf])
            subst hun
            go_simp
            exact hK.out _ _ ⟨b0, b1, b2, b3, b4, b5, b6, b7, b8, true, v29, v30, v31, v32, v33, v34, v35, v36, .int .i64 v, .int .i64 v, rfl, (by simp only [Act.put, List.setIfInBounds_toArray, List.set_cons_zero, List.set_cons_succ]), hB, h0, h1, h2, h3, h4, h5, h6, h7, Lib.hid (fun _ => rfl), Lib.hid (fun _ => rfl)⟩
        intro L A W hI hr
        obtain ⟨b0, b1, b2, b3, b4, b5, b6, b7, b8, b9, v29, v30, v31, v32, v33, v34, v35, v36, v37, v4, rfl, rfl, hB, h0, h1, h2, h3, h4, h5, h6, h7, h8, h9⟩ := hI
        have d0 := ready_done hr 0 _ rfl (by simp [Region.binds])
        have d1 := ready_done hr 1 _ rfl (by simp [Region.binds])
        have d3 := ready_done hr 3 _ rfl (by simp [Region.binds])
        have d5 := ready_done hr 5 _ rfl (by simp [Region.binds])
        simp at d0 d1 d3 d5
        subst d0 d1 d3 d5
        have d2 := ready_done hr 2 _ rfl (by simp [Region.binds])
        have d4 := ready_done hr 4 _ rfl (by simp [Region.binds])
        have d6 := ready_done hr 6 _ rfl (by simp [Region.binds])
        simp at d2 d4 d6
        subst d2 d4 d6
        have d7 := ready_done hr 7 _ rfl (by simp [Region.binds])
        simp at d7
        subst d7
        have d8 := ready_done hr 8 _ rfl (by simp [Region.binds])
        simp at d8
        subst d8
        have d9 := ready_done hr 9 _ rfl (by simp [Region.binds])
        simp at d9
        subst d9
        obtain rfl := h0.out rfl
        obtain rfl := h1.out rfl
        obtain rfl := h2.out rfl
        obtain rfl := h3.out rfl
        obtain rfl := h4.out rfl
        obtain rfl := h5.out rfl
        obtain rfl := h6.out rfl
        obtain rfl := h7.out rfl
        obtain rfl := h8.out rfl
        obtain rfl := h9.out rfl
        simp only [Act.put, List.setIfInBounds_toArray, List.set_cons_zero, List.set_cons_succ]
        clear hr h0 h1 h2 h3 h4 h5 h6 h7 h8 h9
        have HB2 := Lib.hid hB
        clear hB
        have B1 := Lib.hid (HB0.out.trans (HB2.out.mono HB0.out.size))
        go_wp2
        go_ret
        exact ⟨rfl, B1.out⟩
      · have HV : Hid (rwI n x y = v) := by show _ = _; rw [HE.out, if_neg h2, if_neg h3, if_neg h1]
        have CW := Lib.hid (rowIndex_any c n x y W0 hn)
        rw [HV.out, hci] at CW
        clear HE CF hx hy h16
        by_cases hc1 : c = 1
        · subst hc1
          obtain rfl : ci = 1 := by omega
          clear hci k2 k3
          have ky : ¬ (y : Int) % 2 = 1 := by omega
          have ky2 : ¬ Int.tmod (y : Int) 2 = 1 := by rw [Int.tmod_eq_emod_of_nonneg (by omega)]; exact ky
          go_enter Tryd.func76, Tryd.ntmps76
          go_upto_region 1 with fail
          rw [HW.out]
          go_wp2_with fail
          refine CW.out.mono ?_
          rintro e w1 ⟨rfl, hb⟩
          have B1 := Lib.hid (HB0.out.trans (hb.mono HB0.out.size))
          clear hb
          go_wp2
          go_ret
          exact ⟨rfl, B1.out⟩
        · have k1 : ¬ ci = 1 := by omega
          clear hci
          go_enter Tryd.func76, Tryd.ntmps76
          go_upto_region 1 with fail
          rw [HW.out]
          go_wp2_with fail
          refine CW.out.mono ?_
          rintro e w1 ⟨rfl, hb⟩
          have B1 := Lib.hid (HB0.out.trans (hb.mono HB0.out.size))
          clear hb
          go_wp2
          go_ret
          exact ⟨rfl, B1.out⟩

end Go.Proofs.YthblhibkbcmbaaaDoor

/- Contracts of single functions, and plain lemmas, on which the exact laws of this seat rest; each holds under the conditions that it states. -/
namespace Go.Proofs.YthblhibkbcmbaaaDoor
set_option linter.unusedVariables false
set_option linter.unusedSimpArgs false
open Go.RowKit
attribute [local go_sem] Oper.semAt_some

set_option maxHeartbeats 2000000 in
set_option maxRecDepth 100000 in
theorem requiredTour_yes (c n : Int) (w : World) (hc : inB c 0 3 = true) (hn : inB n 0 4 = true) : Calls Tryd.prog 38 #[.int .i64 c, .int .i64 n] w (fun e w' => e = .returned (.agg #[.int .i64 c, .int .i64 n]) ∧ Below w.heap.size w w') := by
  have CO := Lib.hid (fun W => isOrder_any n W)
  rw [hn] at CO
  have hc2 : 0 ≤ c ∧ c ≤ 3 := by
    unfold inB at hc
    simpa using hc
  obtain ⟨k1, k2⟩ := hc2
  have CR := Lib.hid (fun W => require_yes W)
  go_enter Tryd.func38, Tryd.ntmps38
  go_wp2_with fail
  refine (CO.out _).mono ?_
  rintro e w1 ⟨rfl, rfl⟩
  go_wp2_with fail
  refine (CR.out _).mono ?_
  rintro e w2 ⟨rfl, rfl⟩
  go_wp2
  exact bodyPost_ret (results_cell1 (p := 4) (ty := 66) Tryd.results38 _ _ w.heap.size 66 _ (0, 0) _ rfl (heap_alloc_last w _) Tryd.underlying66 rfl (by kernel_rfl)) rfl ⟨rfl, Joins.below_alloc1 _ _⟩

set_option maxHeartbeats 2000000 in
set_option maxRecDepth 100000 in
theorem requiredTour_no (c n : Int) (w : World) (hno : (inB c 0 3 && inB n 0 4) = false) (hr : NoRes w) : Calls Tryd.prog 38 #[.int .i64 c, .int .i64 n] w (fun e w' => (∃ T x, e = .panicked [{ v := .iface T x, recovered := false }]) ∧ Below w.heap.size w w') := by
  have CO := Lib.hid (fun W => isOrder_any n W)
  have CN := Lib.hid (require_no _ (hr.below (Joins.below_alloc1 w (.cells #[.int .i64 0, .int .i64 0] 66))))
  have B0 := Lib.hid (Joins.below_alloc1 w (.cells #[.int .i64 0, .int .i64 0] 66))
  clear hr
  by_cases k1 : 0 ≤ c
  · by_cases k2 : c ≤ 3
    · have hn : inB n 0 4 = false := by
        have : inB c 0 3 = true := by unfold inB; simp [k1, k2]
        rw [this] at hno
        simpa using hno
      rw [hn] at CO
      clear hno
      go_enter Tryd.func38, Tryd.ntmps38
      go_wp2_with fail
      refine (CO.out _).mono ?_
      rintro e w1 ⟨rfl, rfl⟩
      go_wp2_with fail
      refine CN.out.mono ?_
      rintro e w4 ⟨T, x, rfl, rfl⟩
      go_wp2
      exact ⟨rfl, ⟨T, x, rfl⟩, B0.out⟩
    · clear hno CO
      go_enter Tryd.func38, Tryd.ntmps38
      go_wp2_with fail
      refine CN.out.mono ?_
      rintro e w4 ⟨T, x, rfl, rfl⟩
      go_wp2
      exact ⟨rfl, ⟨T, x, rfl⟩, B0.out⟩
  · clear hno CO
    go_enter Tryd.func38, Tryd.ntmps38
    go_wp2_with fail
    refine CN.out.mono ?_
    rintro e w4 ⟨T, x, rfl, rfl⟩
    go_wp2
    exact ⟨rfl, ⟨T, x, rfl⟩, B0.out⟩
end Go.Proofs.YthblhibkbcmbaaaDoor
