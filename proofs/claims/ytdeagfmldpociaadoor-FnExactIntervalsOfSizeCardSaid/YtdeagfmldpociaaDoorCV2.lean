/- Contracts of single functions, and plain lemmas, on which the exact laws of this seat rest; each holds under the conditions that it states. -/
import Derived.Test.YtdeagfmldpociaaDoorCV4
import Derived.Test.YtdeagfmldpociaaDoorD1
import Derived.BigQuiet
import Derived.Deep.QuietTactic
namespace Go.Proofs.YtdeagfmldpociaaDoor
set_option linter.unusedVariables false
set_option linter.unusedSimpArgs false
open Go.RowKit
attribute [local go_sem] Oper.semAt_some

theorem bHas_any (fx fy tx ty x y : Int) (w : World) : Calls Tryd.prog 120 #[.agg #[.int .i64 fx, .int .i64 fy, .int .i64 tx, .int .i64 ty], .agg #[.int .i64 x, .int .i64 y]] w (SaysB (inB x fx tx && inB y fy ty) w) := by
  obtain ⟨W0, hW0⟩ : ∃ W0, ((w.alloc (.cells #[.int .i64 fx, .int .i64 fy, .int .i64 tx, .int .i64 ty] 101)).alloc (.cells #[.int .i64 x, .int .i64 y] 26)) = W0 := ⟨_, rfl⟩
  have b0 : Below w.heap.size w W0 := by rw [← hW0]; exact Joins.below_alloc2 _ _ _
  have hp0 : W0.heap[w.heap.size]? = some (.cells #[.int .i64 fx, .int .i64 fy, .int .i64 tx, .int .i64 ty] 101 (0, 0)) := by
    rw [← hW0, Below.heap_alloc _ _ _ (by simp)]; exact heap_alloc_last w _
  have hr0 : W0.heap[w.heap.size + 1]? = some (.cells #[.int .i64 x, .int .i64 y] 26 (0, 0)) := by
    rw [← hW0]
    exact heap_alloc2_new _ _ _
  have c0 : W0.cell? ⟨w.heap.size, 0, none⟩ = some (.int .i64 fx) := by rw [Joins.cell_of_block hp0 0]; rfl
  have c1 : W0.cell? ⟨w.heap.size, 1, none⟩ = some (.int .i64 fy) := by rw [Joins.cell_of_block hp0 1]; rfl
  have c2 : W0.cell? ⟨w.heap.size, 2, none⟩ = some (.int .i64 tx) := by rw [Joins.cell_of_block hp0 2]; rfl
  have c3 : W0.cell? ⟨w.heap.size, 3, none⟩ = some (.int .i64 ty) := by rw [Joins.cell_of_block hp0 3]; rfl
  have d0 : W0.cell? ⟨w.heap.size + 1, 0, none⟩ = some (.int .i64 x) := by rw [Joins.cell_of_block hr0 0]; rfl
  have d1 : W0.cell? ⟨w.heap.size + 1, 1, none⟩ = some (.int .i64 y) := by rw [Joins.cell_of_block hr0 1]; rfl
  have B0 := Lib.hid b0
  have HW := Lib.hid hW0
  have he : Hid ((inB x fx tx && inB y fy ty) = (decide (fx ≤ x) && (decide (x ≤ tx) && (decide (fy ≤ y) && decide (y ≤ ty))))) := by
    show _ = _
    unfold inB
    rw [Bool.and_assoc]
  clear b0 hW0 hp0 hr0
  by_cases h1 : fx ≤ x
  · by_cases h2 : x ≤ tx
    · by_cases h3 : fy ≤ y
      · have e : Hid ((inB x fx tx && inB y fy ty) = decide (y ≤ ty)) := by show _ = _; rw [he.out]; simp [h1, h2, h3]
        clear he
        go_enter Tryd.func120, Tryd.ntmps120
        go_wp2_with fail
        rw [HW.out]
        go_wp2
        go_ret
        exact ⟨ret_bool e.out.symm, B0.out⟩
      · have e : Hid ((inB x fx tx && inB y fy ty) = false) := by show _ = _; rw [he.out]; simp [h3]
        clear he
        go_enter Tryd.func120, Tryd.ntmps120
        go_wp2_with fail
        rw [HW.out]
        go_wp2
        go_ret
        exact ⟨ret_bool (a := false) e.out.symm, B0.out⟩
    · have e : Hid ((inB x fx tx && inB y fy ty) = false) := by show _ = _; rw [he.out]; simp [h2]
      clear he
      go_enter Tryd.func120, Tryd.ntmps120
      go_wp2_with fail
      rw [HW.out]
      go_wp2
      go_ret
      exact ⟨ret_bool (a := false) e.out.symm, B0.out⟩
  · have e : Hid ((inB x fx tx && inB y fy ty) = false) := by show _ = _; rw [he.out]; simp [h1]
    clear he
    go_enter Tryd.func120, Tryd.ntmps120
    go_wp2_with fail
    rw [HW.out]
    go_wp2
    go_ret
    exact ⟨ret_bool (a := false) e.out.symm, B0.out⟩

def isInB (d fx fy tx ty : Int) : Bool := hasB d d fx fy && (hasB d d tx ty && (inB tx fx tx && inB ty fy ty))
set_option maxHeartbeats 2000000 in
set_option maxRecDepth 100000 in
theorem isIn_any (d fx fy tx ty : Int) (w : World) : Calls Tryd.prog 115 #[.agg #[.int .i64 fx, .int .i64 fy, .int .i64 tx, .int .i64 ty], .agg (mcells d d (fun _ => 0))] w (SaysB (isInB d fx fy tx ty) w) := by
  have CH : Hid (∀ x y W, Calls Tryd.prog 110 #[.agg (mcells d d (fun _ => 0)), .int .i64 x, .int .i64 y] W (SaysB (hasB d d x y) W)) := fun x y W => has_any _ d d (fun _ => 0) x y W ⟨rfl⟩
  have CB : Hid (∀ x y W, Calls Tryd.prog 120 #[.agg #[.int .i64 fx, .int .i64 fy, .int .i64 tx, .int .i64 ty], .agg #[.int .i64 x, .int .i64 y]] W (SaysB (inB x fx tx && inB y fy ty) W)) := fun x y W => bHas_any fx fy tx ty x y W
  have HI4 : Hid ((Tryd.prog.info? 94).map (·.size) = some (mcells d d (fun _ => 0)).size) := infoM
  obtain ⟨C, hC⟩ : ∃ C, mcells d d (fun _ => 0) = C := ⟨_, rfl⟩
  rw [hC] at CH HI4 ⊢
  obtain ⟨W0, hW0⟩ : ∃ W0, ((w.alloc (.cells #[.int .i64 fx, .int .i64 fy, .int .i64 tx, .int .i64 ty] 101)).alloc (.cells C 94)) = W0 := ⟨_, rfl⟩
  have b0 : Below w.heap.size w W0 := by rw [← hW0]; exact Joins.below_alloc2 _ _ _
  have hp0 : W0.heap[w.heap.size]? = some (.cells #[.int .i64 fx, .int .i64 fy, .int .i64 tx, .int .i64 ty] 101 (0, 0)) := by
    rw [← hW0, Below.heap_alloc _ _ _ (by simp)]; exact heap_alloc_last w _
  have hr0 : W0.heap[w.heap.size + 1]? = some (.cells C 94 (0, 0)) := by
    rw [← hW0]
    exact heap_alloc2_new _ _ _
  have HX : Hid (∀ W, Below W0.heap.size W0 W → W.cell? ⟨w.heap.size, 0, none⟩ = some (.int .i64 fx) ∧ W.cell? ⟨w.heap.size, 1, none⟩ = some (.int .i64 fy) ∧ W.cell? ⟨w.heap.size, 2, none⟩ = some (.int .i64 tx) ∧ W.cell? ⟨w.heap.size, 3, none⟩ = some (.int .i64 ty)) := fun W hb =>
    ⟨cell_kept hb (by rw [Joins.cell_of_block hp0 0]; rfl), cell_kept hb (by rw [Joins.cell_of_block hp0 1]; rfl), cell_kept hb (by rw [Joins.cell_of_block hp0 2]; rfl), cell_kept hb (by rw [Joins.cell_of_block hp0 3]; rfl)⟩
  have HS : Hid (∀ W, Below W0.heap.size W0 W → W.heap[w.heap.size + 1]? = some (.cells C 94 (0, 0))) := fun W hb => (hb.block _ (Array.getElem?_eq_some_iff.1 hr0).1).trans hr0
  have HP : Hid (∀ W, Below W0.heap.size W0 W → W.heap[w.heap.size]? = some (.cells #[.int .i64 fx, .int .i64 fy, .int .i64 tx, .int .i64 ty] 101 (0, 0))) := fun W hb => (hb.block _ (Array.getElem?_eq_some_iff.1 hp0).1).trans hp0
  have B0 := Lib.hid b0
  have BR : Hid (Below W0.heap.size W0 W0) := Below.refl _ _
  have HW := Lib.hid hW0
  have he : Hid (isInB d fx fy tx ty = (hasB d d fx fy && (hasB d d tx ty && (inB tx fx tx && inB ty fy ty)))) := rfl
  have l0 := b0.size
  have lr := (Array.getElem?_eq_some_iff.1 hr0).1
  obtain ⟨r, hr⟩ : ∃ r, isInB d fx fy tx ty = r := ⟨_, rfl⟩
  rw [hr] at he ⊢
  obtain ⟨b1, hb1⟩ : ∃ b, hasB d d fx fy = b := ⟨_, rfl⟩
  obtain ⟨b2, hb2⟩ : ∃ b, hasB d d tx ty = b := ⟨_, rfl⟩
  have C1 := Lib.hid (fun W => CH.out fx fy W)
  have C2 := Lib.hid (fun W => CH.out tx ty W)
  have C3 := Lib.hid (fun W => CB.out tx ty W)
  rw [hb1] at he C1
  rw [hb2] at he C2
  obtain ⟨b3, hb3⟩ : ∃ b, (inB tx fx tx && inB ty fy ty) = b := ⟨_, rfl⟩
  rw [hb3] at he C3
  have c0 := (HX.out _ BR.out).1
  have c1 := (HX.out _ BR.out).2.1
  clear CH CB hC b0 hW0 hp0 hr0 hb1 hb2 hb3 hr
  unfold SaysB at C1 C2 C3
  go_enter Tryd.func115, Tryd.ntmps115
  go_upto_region 1 with fail
  rw [HW.out]
  go_wp2_with (refine wpList_load_row rfl 94 _ rfl (w.heap.size + 1) rfl 94 C (0, 0) _ (HS.out _ BR.out) Tryd.underlying94 rfl HI4.out ?_)
  refine (C1.out _).mono ?_
  rintro e w1 ⟨rfl, hb⟩
  have B1 := Lib.hid hb
  clear hb c0 c1
  cases b1 with
  | false =>
    have e : Hid (false = r) := he.out.symm
    have B9 := Lib.hid (B0.out.trans (B1.out.mono B0.out.size))
    go_wp2_with fail
    go_ret
    exact ⟨ret_bool e.out, B9.out⟩
  | true =>
    have c2 := (HX.out _ B1.out).2.2.1
    have c3 := (HX.out _ B1.out).2.2.2
    go_wp2_with (refine wpList_load_row_g rfl 94 _ rfl (w.heap.size + 1) rfl 94 C (0, 0) _ (HS.out _ B1.out) Tryd.underlying94 rfl HI4.out ?_)
    refine (C2.out _).mono ?_
    rintro e w2 ⟨rfl, hb⟩
    have B2 := Lib.hid (B1.out.trans (hb.mono B1.out.size))
    clear hb c2 c3
    cases b2 with
    | false =>
      have e : Hid (false = r) := he.out.symm
      have B9 := Lib.hid (B0.out.trans (B2.out.mono B0.out.size))
      go_wp2_with fail
      go_ret
      exact ⟨ret_bool e.out, B9.out⟩
    | true =>
      have c0 := (HX.out _ B2.out).1
      have c1 := (HX.out _ B2.out).2.1
      have c2 := (HX.out _ B2.out).2.2.1
      have c3 := (HX.out _ B2.out).2.2.2
      go_wp2_with fail
      refine (C3.out _).mono ?_
      rintro e w3 ⟨rfl, hb⟩
      have B9 := Lib.hid (B0.out.trans ((B2.out.trans (hb.mono B2.out.size)).mono B0.out.size))
      clear hb
      have e : Hid (b3 = r) := he.out.symm
      go_wp2_with fail
      go_ret
      exact ⟨ret_bool e.out, B9.out⟩

/-! ### a box of an order -/
def boxB (d fx fy tx ty : Int) : Bool := inB fx 0 (d - 1) && (inB fy 0 (d - 1) && (inB tx fx (d - 1) && inB ty fy (d - 1)))
def boxOk (n fx fy tx ty : Int) : Bool := inB n 0 4 && boxB (sd n) fx fy tx ty
theorem isInB_box (d fx fy tx ty : Int) : isInB d fx fy tx ty = boxB d fx fy tx ty := by
  rw [Bool.eq_iff_iff]
  unfold isInB boxB hasB inB
  simp only [Bool.and_eq_true, decide_eq_true_eq]
  omega

set_option maxHeartbeats 2000000 in
set_option maxRecDepth 100000 in
theorem l08Box_any (n fx fy tx ty : Int) (w : World) : Calls Tryd.prog 68 #[.int .i64 n, .agg #[.int .i64 fx, .int .i64 fy], .agg #[.int .i64 tx, .int .i64 ty]] w (SaysB (boxOk n fx fy tx ty) w) := by
  obtain ⟨W0, hW0⟩ : ∃ W0, ((w.alloc (.cells #[.int .i64 fx, .int .i64 fy] 26)).alloc (.cells #[.int .i64 tx, .int .i64 ty] 26)) = W0 := ⟨_, rfl⟩
  have b0 : Below w.heap.size w W0 := by rw [← hW0]; exact Joins.below_alloc2 _ _ _
  have hp0 : W0.heap[w.heap.size]? = some (.cells #[.int .i64 fx, .int .i64 fy] 26 (0, 0)) := by
    rw [← hW0, Below.heap_alloc _ _ _ (by simp)]; exact heap_alloc_last w _
  have hr0 : W0.heap[w.heap.size + 1]? = some (.cells #[.int .i64 tx, .int .i64 ty] 26 (0, 0)) := by
    rw [← hW0]
    exact heap_alloc2_new _ _ _
  have c0 : W0.cell? ⟨w.heap.size, 0, none⟩ = some (.int .i64 fx) := by rw [Joins.cell_of_block hp0 0]; rfl
  have c1 : W0.cell? ⟨w.heap.size, 1, none⟩ = some (.int .i64 fy) := by rw [Joins.cell_of_block hp0 1]; rfl
  have d0 : W0.cell? ⟨w.heap.size + 1, 0, none⟩ = some (.int .i64 tx) := by rw [Joins.cell_of_block hr0 0]; rfl
  have d1 : W0.cell? ⟨w.heap.size + 1, 1, none⟩ = some (.int .i64 ty) := by rw [Joins.cell_of_block hr0 1]; rfl
  have B0 := Lib.hid b0
  have HW := Lib.hid hW0
  have CN := Lib.hid (fun W => l00In_any n 0 4 W)
  have he : Hid (boxOk n fx fy tx ty = (inB n 0 4 && (inB fx 0 (sd n - 1) && (inB fy 0 (sd n - 1) && (inB tx fx (sd n - 1) && inB ty fy (sd n - 1)))))) := rfl
  obtain ⟨r, hr⟩ : ∃ r, boxOk n fx fy tx ty = r := ⟨_, rfl⟩
  rw [hr] at he ⊢
  clear b0 hW0 hp0 hr0 hr
  cases hn : inB n 0 4 with
  | false =>
    rw [hn] at he CN
    have e : Hid (false = r) := he.out.symm
    clear he
    go_enter Tryd.func68, Tryd.ntmps68
    go_wp2_with fail
    rw [HW.out]
    refine (CN.out _).mono ?_
    rintro e w' ⟨rfl, rfl⟩
    go_wp2_with fail
    go_ret
    exact ⟨ret_bool e.out, B0.out⟩
  | true =>
    rw [hn] at he CN
    have hn2 : 0 ≤ n ∧ n ≤ 4 := by
      unfold inB at hn
      simpa using hn
    have CD := Lib.hid (fun W => l08Side_any n W hn2.1 hn2.2)
    have hd := sd_le hn2.1 hn2.2
    obtain ⟨d, hdd⟩ : ∃ d, sd n = d := ⟨_, rfl⟩
    rw [hdd] at CD hd he
    have kw : IntKind.i64.wrap (d - 1) = d - 1 := IntWalk.i64_in _ (by omega)
    have C1 := Lib.hid (fun W => l00In_any fx 0 (d - 1) W)
    have C2 := Lib.hid (fun W => l00In_any fy 0 (d - 1) W)
    have C3 := Lib.hid (fun W => l00In_any tx fx (d - 1) W)
    have C4 := Lib.hid (fun W => l00In_any ty fy (d - 1) W)
    obtain ⟨b1, hb1⟩ : ∃ b, inB fx 0 (d - 1) = b := ⟨_, rfl⟩
    obtain ⟨b2, hb2⟩ : ∃ b, inB fy 0 (d - 1) = b := ⟨_, rfl⟩
    obtain ⟨b3, hb3⟩ : ∃ b, inB tx fx (d - 1) = b := ⟨_, rfl⟩
    obtain ⟨b4, hb4⟩ : ∃ b, inB ty fy (d - 1) = b := ⟨_, rfl⟩
    rw [hb1] at he C1
    rw [hb2] at he C2
    rw [hb3] at he C3
    rw [hb4] at he C4
    clear hb1 hb2 hb3 hb4 hn hdd
    go_enter Tryd.func68, Tryd.ntmps68
    go_wp2_with fail
    rw [HW.out]
    refine (CN.out _).mono ?_
    rintro e w' ⟨rfl, rfl⟩
    go_wp2_with fail
    refine (CD.out _).mono ?_
    rintro e w' ⟨rfl, rfl⟩
    go_wp2_with fail
    refine (C1.out _).mono ?_
    rintro e w' ⟨rfl, rfl⟩
    cases b1 with
    | false =>
      have e : Hid (false = r) := he.out.symm
      clear he
      go_wp2_with fail
      go_ret
      exact ⟨ret_bool e.out, B0.out⟩
    | true =>
      go_wp2_with fail
      refine (C2.out _).mono ?_
      rintro e w' ⟨rfl, rfl⟩
      cases b2 with
      | false =>
        have e : Hid (false = r) := he.out.symm
        clear he
        go_wp2_with fail
        go_ret
        exact ⟨ret_bool e.out, B0.out⟩
      | true =>
        go_wp2_with fail
        refine (C3.out _).mono ?_
        rintro e w' ⟨rfl, rfl⟩
        cases b3 with
        | false =>
          have e : Hid (false = r) := he.out.symm
          clear he
          go_wp2_with fail
          go_ret
          exact ⟨ret_bool e.out, B0.out⟩
        | true =>
          go_wp2_with fail
          refine (C4.out _).mono ?_
          rintro e w' ⟨rfl, rfl⟩
          have e : Hid (b4 = r) := he.out.symm
          clear he
          go_wp2_with fail
          go_ret
          exact ⟨ret_bool e.out, B0.out⟩
end Go.Proofs.YtdeagfmldpociaaDoor
