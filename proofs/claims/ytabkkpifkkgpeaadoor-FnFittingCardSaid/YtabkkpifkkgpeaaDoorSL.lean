/- Contracts of single functions, and plain lemmas, on which the exact laws of this seat rest; each holds under the conditions that it states. -/
import Derived.Test.YtabkkpifkkgpeaaDoorSJ
import Derived.Test.YtabkkpifkkgpeaaDoorHC
import Derived.Test.YtabkkpifkkgpeaaDoorL13
import Derived.Test.YtabkkpifkkgpeaaDoorAn
import Derived.Deep.RegionHeld3
import Derived.Deep.DeepCutAuto
namespace Go.Proofs.YtabkkpifkkgpeaaDoor
set_option linter.unusedVariables false
set_option linter.unusedSimpArgs false
open Go.RowKit
attribute [local go_sem] Oper.semAt_some

theorem SlS.row {W : World} {g n cap : Nat} {xs : List (Int × Int)} (h : SlS W (.slice (some ⟨g, 0, none⟩) n cap) xs) (i : Nat) (hi : i < xs.length) : W.cell? ⟨g, i * 2, none⟩ = some (.int .i64 (xs.getD i (0, 0)).1) ∧ W.cell? ⟨g, i * 2 + 1, none⟩ = some (.int .i64 (xs.getD i (0, 0)).2) := by
  obtain ⟨ao, c, e, h1⟩ := sl_form h
  obtain ⟨b, rfl, hs⟩ := h1 (by omega)
  injection e with e1 e2 e3
  injection e1 with e1
  injection e1 with e4 e5
  subst e4
  exact hs.2 i hi
theorem getD_small {xs : List (Int × Int)} (h : ∀ q ∈ xs, (-2 ≤ q.1 ∧ q.1 ≤ 2) ∧ (-2 ≤ q.2 ∧ q.2 ≤ 2)) (i : Nat) : (-2 ≤ (xs.getD i (0, 0)).1 ∧ (xs.getD i (0, 0)).1 ≤ 2) ∧ (-2 ≤ (xs.getD i (0, 0)).2 ∧ (xs.getD i (0, 0)).2 ≤ 2) := by
  rw [List.getD_eq_getElem?_getD]
  cases hx : xs[i]? with
  | none => decide
  | some q => exact h q (List.mem_of_getElem? hx)
def whP (ss : List ByteArray) (ys : List (Int × Int)) (X Y : Int) (i : Nat) : Bool := !pixI ss (X + (ys.getD i (0, 0)).1) (Y + (ys.getD i (0, 0)).2)
theorem all_succ (f : Nat → Bool) (i : Nat) : (List.range (i + 1)).all f = ((List.range i).all f && f i) := by
  rw [List.range_succ, List.all_append]
  simp
theorem any_succ (f : Nat → Bool) (i : Nat) : (List.range (i + 1)).any f = ((List.range i).any f || f i) := by
  rw [List.range_succ, List.any_append]
  simp

set_option maxHeartbeats 8000000 in
set_option maxRecDepth 100000 in
theorem law_FnFitting (v0 v1 : Value) (ns ms : List Nat) (w : World) (hv0 : SlY w v0 ns) (hv1 : SlY w v1 ms) (hl0 : ns.length ≤ maxLen) (hl1 : ms.length ≤ maxLen) (hby0 : ∀ i, ns.getD i 0 < 256) (hby1 : ∀ i, ms.getD i 0 < 256) (he : ErrLen w) :
    Calls Tryd.prog 5 #[v0, v1] w fun e w' => e = .returned (.bool true) ∧ Below w.heap.size w w' := by
  have CL := Lib.hid (b10Long_any v0 v1 ns ms w hv0 hv1)
  obtain ⟨lg, hlg⟩ : ∃ x, (decide (1048576 < ns.length) || decide (1048576 < ms.length)) = x := ⟨_, rfl⟩
  rw [hlg] at CL
  clear hlg
  have CB := Lib.hid (fun W (hb : Below w.heap.size w W) => B10Picture_any v0 ns W (hv0.below hb) hby0 hl0)
  have CE := Lib.hid (fun W (hb : Below w.heap.size w W) => B10Element_any v1 ms W (hv1.below hb) hby1 hl1)
  have CM := Lib.hid (fun W (hb : Below w.heap.size w W) => B10Element_any v0 ns W (hv0.below hb) hby0 hl0)
  have HE : Hid (∀ W, Below w.heap.size w W → ErrLen W) := fun W hb => he.below hb
  obtain ⟨ao, capA0, rfl⟩ := hv0.form
  obtain ⟨ao1, capA1, rfl⟩ := hv1.form
  have B0 := Lib.hid (Below.refl w.heap.size w)
  clear hv0 hv1 hl0 hl1 hby0 hby1 he
  cases lg with
  | true =>
    go_enter Tryd.func5, Tryd.ntmps5
    go_wp2_with fail
    refine CL.out.mono ?_
    rintro e w9 ⟨rfl, rfl⟩
    go_wp2_with fail
    go_ret
    exact ⟨rfl, B0.out⟩
  | false =>
    go_enter Tryd.func5, Tryd.ntmps5
    go_wp2_with fail
    refine CL.out.mono ?_
    rintro e w9 ⟨rfl, rfl⟩
    go_wp2_with fail
    refine (CB.out w B0.out).mono ?_
    rintro e u1 ⟨a, b, ha7, hb7, f, g1, cap1, rfl, hown, hb⟩
    have hsl := OwnP.sl hown
    have B1 := Lib.hid ((B0.out.trans (hb.mono B0.out.size)).alloc (B0.out.trans (hb.mono B0.out.size)).size (.cells #[.slice (some ⟨g1, 0, none⟩) b cap1] 42))
    have P_p1 := Lib.hid (PV.new hsl)
    obtain ⟨W1, hW⟩ : ∃ W, u1.alloc (.cells #[.slice (some ⟨g1, 0, none⟩) b cap1] 42) = W := ⟨_, rfl⟩
    obtain ⟨b_p, hq⟩ : ∃ q, u1.heap.size = q := ⟨_, rfl⟩
    rw [hW] at B1 P_p1
    rw [hq] at P_p1
    have EW1 := Lib.hid hW
    have EQ1 := Lib.hid hq
    clear hW hq hsl hown hb  
    have hA : 1 ≤ a ∧ a ≤ 16 := by omega
    have hB : 1 ≤ b ∧ b ≤ 16 := by omega
    clear ha7 hb7 CB
    go_wp2_with fail
    rw [EW1.out, EQ1.out]
    refine (CE.out W1 B1.out).mono ?_
    rintro e u2 ⟨g2, cap2, xs, rfl, hown, hb, hEl, hx4, hxs⟩
    have hsl := OwnS.sl hown
    have HCap_e := Lib.hid (own_capA hown)
    have B2 := Lib.hid ((B1.out.trans (hb.mono B1.out.size)).alloc (B1.out.trans (hb.mono B1.out.size)).size (.cells #[.slice (some ⟨g2, 0, none⟩) xs.length cap2] 46))
    have P_p2 := Lib.hid ((P_p1.out.below hb).alloc (.cells #[.slice (some ⟨g2, 0, none⟩) xs.length cap2] 46))
    have P_e2 := Lib.hid (EV.new hsl)
    obtain ⟨W2, hW⟩ : ∃ W, u2.alloc (.cells #[.slice (some ⟨g2, 0, none⟩) xs.length cap2] 46) = W := ⟨_, rfl⟩
    obtain ⟨b_e, hq⟩ : ∃ q, u2.heap.size = q := ⟨_, rfl⟩
    rw [hW] at B2 P_p2 P_e2
    rw [hq] at P_e2
    have EW2 := Lib.hid hW
    have EQ2 := Lib.hid hq
    clear hW hq hsl hown hb  P_p1
    go_wp2_with fail
    rw [EW2.out, EQ2.out]
    refine (CM.out W2 B2.out).mono ?_
    rintro e u3 ⟨g3, cap3, ys, rfl, hown, hb, hEm, hy4, hys⟩
    have hsl := OwnS.sl hown
    have HCap_m := Lib.hid (own_capA hown)
    have B3 := Lib.hid ((B2.out.trans (hb.mono B2.out.size)).alloc (B2.out.trans (hb.mono B2.out.size)).size (.cells #[.slice (some ⟨g3, 0, none⟩) ys.length cap3] 46))
    have P_p3 := Lib.hid ((P_p2.out.below hb).alloc (.cells #[.slice (some ⟨g3, 0, none⟩) ys.length cap3] 46))
    have P_e3 := Lib.hid ((P_e2.out.below hb).alloc (.cells #[.slice (some ⟨g3, 0, none⟩) ys.length cap3] 46))
    have P_m3 := Lib.hid (EV.new hsl)
    obtain ⟨W3, hW⟩ : ∃ W, u3.alloc (.cells #[.slice (some ⟨g3, 0, none⟩) ys.length cap3] 46) = W := ⟨_, rfl⟩
    obtain ⟨b_m, hq⟩ : ∃ q, u3.heap.size = q := ⟨_, rfl⟩
    rw [hW] at B3 P_p3 P_e3 P_m3
    rw [hq] at P_m3
    have EW3 := Lib.hid hW
    have EQ3 := Lib.hid hq
    clear hW hq hsl hown hb  P_p2 P_e2
    have hwx := small_wf hxs
    have hwy := small_wf hys
    have hx6 : xs.length ≤ 1048576 := by omega
    have hy6 : ys.length ≤ 1048576 := by omega
    have VP0 := mkPic_valid a b f hA hB
    have R0 : (row0 (mkPic a b f)).size = a := mkPic_row0 a b f hB.1
    have hpx : ∀ k, pxP k (mkPic a b f) xs = mkPic a b (pxF k (mkPic a b f) xs) ∧ pxOk (mkPic a b f) xs = true := fun k => by
      have h1 : pxOk (mkPic a b f) xs = true := by unfold pxOk; rw [VP0, hEl]; rfl
      exact ⟨by unfold pxP; rw [if_pos h1, R0, mkPic_len], h1⟩
    have hhm : hmP (mkPic a b f) xs ys = mkPic a b (hmF (mkPic a b f) xs ys) ∧ hmOk (mkPic a b f) xs ys = true := by
      have h1 : hmOk (mkPic a b f) xs ys = true := by unfold hmOk; rw [VP0, hEl, hEm]; rfl
      exact ⟨by unfold hmP; rw [if_pos h1, R0, mkPic_len], h1⟩
    have CEr : Hid (∀ u v W, Below w.heap.size w W → Sl W u (mkPic a b f) → SlS W v xs → (∀ ao n c, v = .slice ao n c → n ≤ c) → Calls Tryd.prog 22 #[.agg #[u], .agg #[v]] W (SaysPic (mkPic a b (pxF 1 (mkPic a b f) xs)) true W)) := fun u v W hb hu hv hc => by
      have := impl_Erode u v (mkPic a b f) xs W (len_max VP0) (mem_size VP0) hu hx6 hwx hv hc (HE.out W hb)
      rw [(hpx 1).1, (hpx 1).2] at this
      exact this
    have CDi : Hid (∀ u v W, Below w.heap.size w W → Sl W u (mkPic a b f) → SlS W v xs → (∀ ao n c, v = .slice ao n c → n ≤ c) → Calls Tryd.prog 23 #[.agg #[u], .agg #[v]] W (SaysPic (mkPic a b (pxF 0 (mkPic a b f) xs)) true W)) := fun u v W hb hu hv hc => by
      have := impl_Dilate u v (mkPic a b f) xs W (len_max VP0) (mem_size VP0) hu hx6 hwx hv hc (HE.out W hb)
      rw [(hpx 0).1, (hpx 0).2] at this
      exact this
    have CHm : Hid (∀ u v v2 W, Below w.heap.size w W → Sl W u (mkPic a b f) → SlS W v xs → (∀ ao n c, v = .slice ao n c → n ≤ c) → SlS W v2 ys → Calls Tryd.prog 24 #[.agg #[u], .agg #[v], .agg #[v2]] W (SaysPic (mkPic a b (hmF (mkPic a b f) xs ys)) true W)) := fun u v v2 W hb hu hv hc hv2 => by
      have := impl_Hit u v v2 (mkPic a b f) xs ys W (len_max VP0) (mem_size VP0) hu hx6 hwx hv hc hy6 hwy hv2 (HE.out W hb)
      rw [hhm.1, hhm.2] at this
      exact this
    have CVe : Hid (∀ v W, SlS W v xs → Calls Tryd.prog 25 #[.agg #[v]] W (SaysB true W)) := fun v W hv => by
      have := impl_ValidElement v xs W hx6 hwx hv
      rw [hEl] at this
      exact this
    have CFt : Hid (∀ u v (x y : Nat) W, x < 16 → y < 16 → Below w.heap.size w W → Sl W u (mkPic a b f) → SlS W v xs → Calls Tryd.prog 27 #[.agg #[u], .agg #[v], .agg #[.int .i64 (x : Int), .int .i64 (y : Int)]] W (SaysB (fitB (mkPic a b f) xs (x : Int) (y : Int)) W)) := fun u v x y W hx hy hb hu hv => by
      have := impl_FitsAt u v (mkPic a b f) xs (x : Int) (y : Int) W (len_max VP0) (mem_size VP0) hu hx6 hwx hv (HE.out W hb)
      have hin : fitIn (x : Int) (y : Int) = true := by
        unfold fitIn inB
        simp
        omega
      unfold fitV at this
      rw [VP0, hEl, hin, Bool.true_and, Bool.true_and, Bool.true_and] at this
      exact this
    have CBi : Hid (∀ v (X Y : Int) W, Sl W v (mkPic a b f) → Calls Tryd.prog 26 #[.agg #[v], .int .i64 X, .int .i64 Y] W (SaysB (pixI (mkPic a b f) X Y) W)) := fun v X Y W hs => b10Black_any v (mkPic a b f) X Y W hs VP0
    have CBk : Hid (∀ v f (x y : Nat) W, x < a → y < b → Sl W v (mkPic a b f) → Calls Tryd.prog 26 #[.agg #[v], .int .i64 (x : Int), .int .i64 (y : Int)] W (SaysB (f y x) W)) := fun v f x y W hx hy hs => by
      have := b10Black_any v (mkPic a b f) (x : Int) (y : Int) W hs (mkPic_valid a b f hA hB)
      rw [pixI_mk hx hy] at this
      exact this
    clear CE CM hpx hhm hwx hwy hEl hEm hx6 hy6 HE VP0
    have c_p : (u3.alloc (.cells #[.slice (some ⟨g3, 0, none⟩) ys.length cap3] 46)).cell? ⟨b_p, 0, none⟩ = some (.slice (some ⟨g1, 0, none⟩) b cap1) := by
      rw [EW3.out]
      exact P_p3.out.cell
    have c_e : (u3.alloc (.cells #[.slice (some ⟨g3, 0, none⟩) ys.length cap3] 46)).cell? ⟨b_e, 0, none⟩ = some (.slice (some ⟨g2, 0, none⟩) xs.length cap2) := by
      rw [EW3.out]
      exact P_e3.out.cell
    go_wp2_with fail
    rw [EW3.out, EQ3.out]
    refine (CEr.out _ _ W3 B3.out P_p3.out.sl P_e3.out.sl HCap_e.out).mono ?_
    rintro e u4 ⟨ao4, n4, cap4, rfl, hown, hb⟩
    have hsl := OwnP.sl hown
    have B4 := Lib.hid ((B3.out.trans (hb.mono B3.out.size)).alloc (B3.out.trans (hb.mono B3.out.size)).size (.cells #[.slice ao4 n4 cap4] 42))
    have P_p4 := Lib.hid ((P_p3.out.below hb).alloc (.cells #[.slice ao4 n4 cap4] 42))
    have P_e4 := Lib.hid ((P_e3.out.below hb).alloc (.cells #[.slice ao4 n4 cap4] 42))
    have P_m4 := Lib.hid ((P_m3.out.below hb).alloc (.cells #[.slice ao4 n4 cap4] 42))
    have P_a4 := Lib.hid (PV.new hsl)
    obtain ⟨W4, hW⟩ : ∃ W, u4.alloc (.cells #[.slice ao4 n4 cap4] 42) = W := ⟨_, rfl⟩
    obtain ⟨b_a, hq⟩ : ∃ q, u4.heap.size = q := ⟨_, rfl⟩
    rw [hW] at B4 P_p4 P_e4 P_m4 P_a4
    rw [hq] at P_a4
    have EW4 := Lib.hid hW
    have EQ4 := Lib.hid hq
    clear hW hq hsl hown hb c_p c_e P_p3 P_e3 P_m3
    have c_p : (u4.alloc (.cells #[.slice ao4 n4 cap4] 42)).cell? ⟨b_p, 0, none⟩ = some (.slice (some ⟨g1, 0, none⟩) b cap1) := by
      rw [EW4.out]
      exact P_p4.out.cell
    have c_e : (u4.alloc (.cells #[.slice ao4 n4 cap4] 42)).cell? ⟨b_e, 0, none⟩ = some (.slice (some ⟨g2, 0, none⟩) xs.length cap2) := by
      rw [EW4.out]
      exact P_e4.out.cell
    go_wp2_with fail
    rw [EW4.out, EQ4.out]
    refine (CDi.out _ _ W4 B4.out P_p4.out.sl P_e4.out.sl HCap_e.out).mono ?_
    rintro e u5 ⟨ao5, n5, cap5, rfl, hown, hb⟩
    have hsl := OwnP.sl hown
    have B5 := Lib.hid ((B4.out.trans (hb.mono B4.out.size)).alloc (B4.out.trans (hb.mono B4.out.size)).size (.cells #[.slice ao5 n5 cap5] 42))
    have P_p5 := Lib.hid ((P_p4.out.below hb).alloc (.cells #[.slice ao5 n5 cap5] 42))
    have P_e5 := Lib.hid ((P_e4.out.below hb).alloc (.cells #[.slice ao5 n5 cap5] 42))
    have P_m5 := Lib.hid ((P_m4.out.below hb).alloc (.cells #[.slice ao5 n5 cap5] 42))
    have P_a5 := Lib.hid ((P_a4.out.below hb).alloc (.cells #[.slice ao5 n5 cap5] 42))
    have P_b5 := Lib.hid (PV.new hsl)
    obtain ⟨W5, hW⟩ : ∃ W, u5.alloc (.cells #[.slice ao5 n5 cap5] 42) = W := ⟨_, rfl⟩
    obtain ⟨b_b, hq⟩ : ∃ q, u5.heap.size = q := ⟨_, rfl⟩
    rw [hW] at B5 P_p5 P_e5 P_m5 P_a5 P_b5
    rw [hq] at P_b5
    have EW5 := Lib.hid hW
    have EQ5 := Lib.hid hq
    clear hW hq hsl hown hb c_p c_e P_p4 P_e4 P_m4 P_a4
    have c_p : (u5.alloc (.cells #[.slice ao5 n5 cap5] 42)).cell? ⟨b_p, 0, none⟩ = some (.slice (some ⟨g1, 0, none⟩) b cap1) := by
      rw [EW5.out]
      exact P_p5.out.cell
    have c_e : (u5.alloc (.cells #[.slice ao5 n5 cap5] 42)).cell? ⟨b_e, 0, none⟩ = some (.slice (some ⟨g2, 0, none⟩) xs.length cap2) := by
      rw [EW5.out]
      exact P_e5.out.cell
    have c_m : (u5.alloc (.cells #[.slice ao5 n5 cap5] 42)).cell? ⟨b_m, 0, none⟩ = some (.slice (some ⟨g3, 0, none⟩) ys.length cap3) := by
      rw [EW5.out]
      exact P_m5.out.cell
    go_wp2_with fail
    rw [EW5.out, EQ5.out]
    refine (CHm.out _ _ _ W5 B5.out P_p5.out.sl P_e5.out.sl HCap_e.out P_m5.out.sl).mono ?_
    rintro e u6 ⟨ao6, n6, cap6, rfl, hown, hb⟩
    have hsl := OwnP.sl hown
    have B6 := Lib.hid ((B5.out.trans (hb.mono B5.out.size)).alloc (B5.out.trans (hb.mono B5.out.size)).size (.cells #[.slice ao6 n6 cap6] 42))
    have P_p6 := Lib.hid ((P_p5.out.below hb).alloc (.cells #[.slice ao6 n6 cap6] 42))
    have P_e6 := Lib.hid ((P_e5.out.below hb).alloc (.cells #[.slice ao6 n6 cap6] 42))
    have P_m6 := Lib.hid ((P_m5.out.below hb).alloc (.cells #[.slice ao6 n6 cap6] 42))
    have P_a6 := Lib.hid ((P_a5.out.below hb).alloc (.cells #[.slice ao6 n6 cap6] 42))
    have P_b6 := Lib.hid ((P_b5.out.below hb).alloc (.cells #[.slice ao6 n6 cap6] 42))
    have P_c6 := Lib.hid (PV.new hsl)
    obtain ⟨W6, hW⟩ : ∃ W, u6.alloc (.cells #[.slice ao6 n6 cap6] 42) = W := ⟨_, rfl⟩
    obtain ⟨b_c, hq⟩ : ∃ q, u6.heap.size = q := ⟨_, rfl⟩
    rw [hW] at B6 P_p6 P_e6 P_m6 P_a6 P_b6 P_c6
    rw [hq] at P_c6
    have EW6 := Lib.hid hW
    have EQ6 := Lib.hid hq
    clear hW hq hsl hown hb c_p c_e c_m P_p5 P_e5 P_m5 P_a5 P_b5
    have c_e : (u6.alloc (.cells #[.slice ao6 n6 cap6] 42)).cell? ⟨b_e, 0, none⟩ = some (.slice (some ⟨g2, 0, none⟩) xs.length cap2) := by
      rw [EW6.out]
      exact P_e6.out.cell
    go_wp2_with fail
    rw [EW6.out, EQ6.out]
    refine (CVe.out _ W6 P_e6.out.sl).mono ?_
    rintro e u7 ⟨rfl, hb⟩
    have B7 := Lib.hid (B6.out.trans (hb.mono B6.out.size))
    have P_p7 := Lib.hid (P_p6.out.below hb)
    have P_e7 := Lib.hid (P_e6.out.below hb)
    have P_m7 := Lib.hid (P_m6.out.below hb)
    have P_a7 := Lib.hid (P_a6.out.below hb)
    have P_b7 := Lib.hid (P_b6.out.below hb)
    have P_c7 := Lib.hid (P_c6.out.below hb)
    clear hb c_e P_p6 P_e6 P_m6 P_a6 P_b6 P_c6
    have hn4 : n4 = b := by rw [P_a7.out.sl.len, mkPic_len]
    subst hn4
    have HP := Lib.hid (fun W (hb : Below u7.heap.size u7 W) => And.intro (P_p7.out.below hb) (And.intro (P_e7.out.below hb) (And.intro (P_m7.out.below hb) (And.intro (P_a7.out.below hb) (And.intro (P_b7.out.below hb) (P_c7.out.below hb))))))
    have HR : Hid (∀ W, Below u7.heap.size u7 W → W.cell? ⟨g1, 0, none⟩ = some (.string (row0 (mkPic a n4 f)))) := fun W hb => (P_p7.out.below hb).sl.row 0 (by rw [mkPic_len]; omega)
    obtain ⟨s0, hs0e⟩ : ∃ s, row0 (mkPic a n4 f) = s := ⟨_, rfl⟩
    rw [hs0e] at HR R0
    have HBe := B7
    have HXs := Lib.hid (getD_small hxs)
    have HYs := Lib.hid (getD_small hys)
    have hxl : xs.length ≤ 4 := hx4
    have hyl : ys.length ≤ 4 := hy4
    have HP1 := Lib.hid (fun W hb => (HP.out W hb).1)
    have c_p := P_a7.out.cell
    have c_q := P_p7.out.cell
    clear hs0e CEr CDi CHm CVe CL hxs hys hx4 hy4
    go_wp2_with fail
    clear c_p c_q P_p7 P_e7 P_m7 P_a7 P_b7 P_c7 B7
    go_loopw [14] (fun iv wr => ∃ y : Nat, y ≤ n4 ∧ iv = .int .i64 (y : Int) ∧ Hid (Below u7.heap.size u7 wr)) (fun iv _ => n4 - (intOf iv).toNat)
    case atStart => exact ⟨0, Nat.zero_le _, rfl, Lib.hid (Below.refl _ _)⟩
    case round =>
      obtain ⟨y, hyb, rfl, HY⟩ := hrel
      have c_p := (HP.out _ HY.out).1.cell
      by_cases hlt : y < n4
      · have ky : (y : Int) < (n4 : Int) := by omega
        go_wp2_with fail
        clear c_p
        go_loopw [15] (fun iv wr => ∃ x : Nat, x ≤ a ∧ iv = .int .i64 (x : Int) ∧ Hid (Below u7.heap.size u7 wr)) (fun iv _ => a - (intOf iv).toNat)
        case atStart => exact ⟨0, Nat.zero_le _, rfl, HY⟩
        case round =>
          clear HY
          obtain ⟨x, hxa, rfl, HX⟩ := hrel
          have c_p := (HP.out _ HX.out).1.cell
          have c_s := HR.out _ HX.out
          have k0 : (0 : Int) < (n4 : Int) := by omega
          by_cases hxl2 : x < a
          · have kx : (x : Int) < (a : Int) := by omega
            obtain ⟨FK, hFK⟩ : ∃ F : Nat → Bool, (fun i => (List.range i).all (fitP (mkPic a n4 f) xs (x : Int) (y : Int))) = F := ⟨_, rfl⟩
            obtain ⟨SK, hSK⟩ : ∃ F : Nat → Bool, (fun i => (List.range i).any (somP (mkPic a n4 f) xs (x : Int) (y : Int))) = F := ⟨_, rfl⟩
            obtain ⟨WK, hWK⟩ : ∃ F : Nat → Bool, (fun i => (List.range i).all (whP (mkPic a n4 f) ys (x : Int) (y : Int))) = F := ⟨_, rfl⟩
            have HF1 : Hid (∀ i, FK (i + 1) = (FK i && pixI (mkPic a n4 f) ((x : Int) + (xs.getD i (0, 0)).1) ((y : Int) + (xs.getD i (0, 0)).2))) := fun i => by rw [← hFK]; exact all_succ _ i
            have HS1 : Hid (∀ i, SK (i + 1) = (SK i || pixI (mkPic a n4 f) ((x : Int) - (xs.getD i (0, 0)).1) ((y : Int) - (xs.getD i (0, 0)).2))) := fun i => by rw [← hSK]; exact any_succ _ i
            have HW1 : Hid (∀ i, WK (i + 1) = (WK i && !pixI (mkPic a n4 f) ((x : Int) + (ys.getD i (0, 0)).1) ((y : Int) + (ys.getD i (0, 0)).2))) := fun i => by rw [← hWK]; exact all_succ _ i
            have HF0 : Hid (FK 0 = true ∧ SK 0 = false ∧ WK 0 = true) := ⟨by rw [← hFK]; rfl, by rw [← hSK]; rfl, by rw [← hWK]; rfl⟩
            have CF := Lib.hid (fun W (hb : Below u7.heap.size u7 W) => CFt.out _ _ x y W (by omega) (by omega) (HBe.out.trans (hb.mono HBe.out.size)) (HP.out W hb).1.sl (HP.out W hb).2.1.sl)
            have C1 := Lib.hid (fun W (hb : Below u7.heap.size u7 W) => CBk.out _ _ x y W hxl2 hlt (HP.out W hb).2.2.2.1.sl)
            have C2 := Lib.hid (fun W (hb : Below u7.heap.size u7 W) => CBk.out _ _ x y W hxl2 hlt (HP.out W hb).2.2.2.2.1.sl)
            have C3 := Lib.hid (fun W (hb : Below u7.heap.size u7 W) => CBk.out _ _ x y W hxl2 hlt (HP.out W hb).2.2.2.2.2.sl)
            have e1 : fitB (mkPic a n4 f) xs (x : Int) (y : Int) = FK xs.length := by rw [← hFK]; rfl
            have e2 : pxF 1 (mkPic a n4 f) xs y x = FK xs.length := by rw [← hFK]; rfl
            have e3 : pxF 0 (mkPic a n4 f) xs y x = SK xs.length := by rw [← hSK]; rfl
            have e4 : hmF (mkPic a n4 f) xs ys y x = (FK xs.length && WK ys.length) := by
              unfold hmF
              rw [e1, ← hWK]
              rfl
            rw [e1] at CF
            rw [e2] at C1
            rw [e3] at C2
            rw [e4] at C3
            unfold SaysB at CF C1 C2 C3
            clear hFK hSK hWK e1 e2 e3 e4
            go_wp2_with fail
            go_loopw [16, 17, 19] (fun fv sv iv wr => ∃ i : Nat, i ≤ xs.length ∧ iv = .int .i64 (i : Int) ∧ fv = .bool (FK i) ∧ sv = .bool (SK i) ∧ Hid (Below u7.heap.size u7 wr)) (fun _ _ iv _ => xs.length - (intOf iv).toNat)
            case atStart => exact ⟨0, Nat.zero_le _, rfl, by rw [HF0.out.1], by rw [HF0.out.2.1], HX⟩
            case round =>
              clear HX
              obtain ⟨i, hi, rfl, rfl, rfl, HZ⟩ := hrel
              have c_e := (HP.out _ HZ.out).2.1.cell
              by_cases hil : i < xs.length
              · have ki : (i : Int) < (xs.length : Int) := by omega
                have ki0 : (0 : Int) ≤ (i : Int) := by omega
                have HQ := Lib.hid (fun W (hb : Below u7.heap.size u7 W) => CBi.out _ ((x : Int) + (xs.getD i (0, 0)).1) ((y : Int) + (xs.getD i (0, 0)).2) W (HP1.out W hb).sl)
                have HQr := Lib.hid (fun W (hb : Below u7.heap.size u7 W) => CBi.out _ ((x : Int) - (xs.getD i (0, 0)).1) ((y : Int) - (xs.getD i (0, 0)).2) W (HP1.out W hb).sl)
                have hFi := HF1.out i
                have hSi := HS1.out i
                have hox := (HXs.out i).1
                have hoy := (HXs.out i).2
                have HK : Hid (∀ W, Below u7.heap.size u7 W → W.cell? ⟨b_p, 0, none⟩ = some (.slice (some ⟨g1, 0, none⟩) n4 cap1) ∧ W.cell? ⟨b_e, 0, none⟩ = some (.slice (some ⟨g2, 0, none⟩) xs.length cap2) ∧ W.cell? ⟨g2, i * 2, none⟩ = some (.int .i64 (xs.getD i (0, 0)).1) ∧ W.cell? ⟨g2, i * 2 + 1, none⟩ = some (.int .i64 (xs.getD i (0, 0)).2)) := fun W hb => ⟨(HP.out W hb).1.cell, (HP.out W hb).2.1.cell, ((HP.out W hb).2.1.sl.row i hil).1, ((HP.out W hb).2.1.sl.row i hil).2⟩
                obtain ⟨ox, hoxe⟩ : ∃ z, (xs.getD i (0, 0)).1 = z := ⟨_, rfl⟩
                obtain ⟨oy, hoye⟩ : ∃ z, (xs.getD i (0, 0)).2 = z := ⟨_, rfl⟩
                rw [hoxe] at HQ HQr hFi hSi hox HK
                rw [hoye] at HQ HQr hFi hSi hoy HK
                obtain ⟨q, hq⟩ : ∃ z, pixI (mkPic a n4 f) ((x : Int) + ox) ((y : Int) + oy) = z := ⟨_, rfl⟩
                obtain ⟨r, hr⟩ : ∃ z, pixI (mkPic a n4 f) ((x : Int) - ox) ((y : Int) - oy) = z := ⟨_, rfl⟩
                rw [hq] at HQ hFi
                rw [hr] at HQr hSi
                unfold SaysB at HQ HQr
                obtain ⟨F, hF⟩ : ∃ z, FK i = z := ⟨_, rfl⟩
                obtain ⟨F1, hF1⟩ : ∃ z, FK (i + 1) = z := ⟨_, rfl⟩
                obtain ⟨S, hS⟩ : ∃ z, SK i = z := ⟨_, rfl⟩
                obtain ⟨S1, hS1⟩ : ∃ z, SK (i + 1) = z := ⟨_, rfl⟩
                rw [hF, hS]
                rw [hF, hF1] at hFi
                rw [hS, hS1] at hSi
                have HFi := Lib.hid hFi
                have HSi := Lib.hid hSi
                have HF1' := Lib.hid hF1
                have HS1' := Lib.hid hS1
                have w1 : IntKind.i64.wrap ((x : Int) + ox) = (x : Int) + ox := IntWalk.i64_in _ (by omega)
                have w2 : IntKind.i64.wrap ((y : Int) + oy) = (y : Int) + oy := IntWalk.i64_in _ (by omega)
                have w3 : IntKind.i64.wrap ((x : Int) - ox) = (x : Int) - ox := IntWalk.i64_in _ (by omega)
                have w4 : IntKind.i64.wrap ((y : Int) - oy) = (y : Int) - oy := IntWalk.i64_in _ (by omega)
                clear hoxe hoye hq hr hF hF1 hS hS1 hFi hSi CF C1 C2 C3
                go_upto_region 23 with fail
                go_cut [16] (fun s16 wx => s16 = .bool F1 ∧ Hid (Below u7.heap.size u7 wx))
                case first =>
                  cases F with
                  | false =>
                    have hf1 : F1 = false := HFi.out.trans (by rfl)
                    subst hf1
                    go_quiet (fail)
                    go_wp2_with fail
                    go_meet
                    exact ⟨rfl, Lib.hid (by first | exact HZ.out | exact HZ.out.drew | exact ⟨HZ.out.os, HZ.out.tape, HZ.out.output, HZ.out.size, HZ.out.block⟩)⟩
                  | true =>
                    have hf1 : F1 = _ := HFi.out
                    go_region_held3 (fun w' => w'.cell? ⟨b_p, 0, none⟩ = some (.slice (some ⟨g1, 0, none⟩) n4 cap1) ∧ w'.cell? ⟨b_e, 0, none⟩ = some (.slice (some ⟨g2, 0, none⟩) xs.length cap2) ∧ w'.cell? ⟨g2, i * 2, none⟩ = some (.int .i64 ox) ∧ w'.cell? ⟨g2, i * 2 + 1, none⟩ = some (.int .i64 oy))
                      (first | exact HK.out _ HZ.out | exact HK.out _ HZ.out.drew | exact HK.out _ hBq)
                      (first | (go_at_call 26; refine (HQ.out _ HZ.out.drew).mono ?_; rintro e wq ⟨rfl, hb⟩; have hBq := (HZ.out.drew).trans (hb.mono (HZ.out.drew).size)))
                    all_goals (go_wp2_with fail; go_meet)
                    all_goals exact ⟨by rw [hf1]; simp, Lib.hid hBq⟩
                case rest =>
                  obtain ⟨rfl, HZ2⟩ := hcut
                  clear HZ
                  go_upto_region 24 with fail
                  cases S with
                  | true =>
                    have hf1 : S1 = true := HSi.out.trans (by rfl)
                    subst hf1
                    go_quiet (fail)
                    go_wp2_with fail
                    go_roundw
                    case rel => exact ⟨i + 1, by omega, by go_num, by rw [HF1'.out], by rw [HS1'.out], Lib.hid (by first | exact HZ2.out | exact HZ2.out.drew | exact ⟨HZ2.out.os, HZ2.out.tape, HZ2.out.output, HZ2.out.size, HZ2.out.block⟩)⟩
                    case measure => simp [intOf]; omega
                  | false =>
                    have hf1 : S1 = _ := HSi.out
                    rw [Bool.false_or] at hf1
                    subst hf1
                    go_region_held3 (fun w' => w'.cell? ⟨b_p, 0, none⟩ = some (.slice (some ⟨g1, 0, none⟩) n4 cap1) ∧ w'.cell? ⟨b_e, 0, none⟩ = some (.slice (some ⟨g2, 0, none⟩) xs.length cap2) ∧ w'.cell? ⟨g2, i * 2, none⟩ = some (.int .i64 ox) ∧ w'.cell? ⟨g2, i * 2 + 1, none⟩ = some (.int .i64 oy))
                      (first | exact HK.out _ HZ2.out | exact HK.out _ HZ2.out.drew | exact HK.out _ hBq)
                      (first | (go_at_call 26; refine (HQr.out _ HZ2.out.drew).mono ?_; rintro e wq ⟨rfl, hb⟩; have hBq := (HZ2.out.drew).trans (hb.mono (HZ2.out.drew).size)))
                    go_wp2_with fail
                    go_roundw
                    case rel => exact ⟨i + 1, by omega, by go_num, by rw [HF1'.out], by rw [HS1'.out], Lib.hid hBq⟩
                    case measure => simp [intOf]; omega
              · have hie : i = xs.length := by omega
                subst hie
                go_wp2_with fail
                clear c_e
                go_loopw [18, 20] (fun wv iv wr => ∃ i : Nat, i ≤ ys.length ∧ iv = .int .i64 (i : Int) ∧ wv = .bool (WK i) ∧ Hid (Below u7.heap.size u7 wr)) (fun _ iv _ => ys.length - (intOf iv).toNat)
                case atStart => exact ⟨0, Nat.zero_le _, rfl, by rw [HF0.out.2.2], HZ⟩
                case round =>
                  clear HZ
                  obtain ⟨i, hi, rfl, rfl, HZ⟩ := hrel
                  have c_m := (HP.out _ HZ.out).2.2.1.cell
                  by_cases hil : i < ys.length
                  · have ki : (i : Int) < (ys.length : Int) := by omega
                    have ki0 : (0 : Int) ≤ (i : Int) := by omega
                    have HQ := Lib.hid (fun W (hb : Below u7.heap.size u7 W) => CBi.out _ ((x : Int) + (ys.getD i (0, 0)).1) ((y : Int) + (ys.getD i (0, 0)).2) W (HP1.out W hb).sl)
                    have hFi := HW1.out i
                    have hox := (HYs.out i).1
                    have hoy := (HYs.out i).2
                    have HK : Hid (∀ W, Below u7.heap.size u7 W → W.cell? ⟨b_p, 0, none⟩ = some (.slice (some ⟨g1, 0, none⟩) n4 cap1) ∧ W.cell? ⟨b_m, 0, none⟩ = some (.slice (some ⟨g3, 0, none⟩) ys.length cap3) ∧ W.cell? ⟨g3, i * 2, none⟩ = some (.int .i64 (ys.getD i (0, 0)).1) ∧ W.cell? ⟨g3, i * 2 + 1, none⟩ = some (.int .i64 (ys.getD i (0, 0)).2)) := fun W hb => ⟨(HP.out W hb).1.cell, (HP.out W hb).2.2.1.cell, ((HP.out W hb).2.2.1.sl.row i hil).1, ((HP.out W hb).2.2.1.sl.row i hil).2⟩
                    obtain ⟨ox, hoxe⟩ : ∃ z, (ys.getD i (0, 0)).1 = z := ⟨_, rfl⟩
                    obtain ⟨oy, hoye⟩ : ∃ z, (ys.getD i (0, 0)).2 = z := ⟨_, rfl⟩
                    rw [hoxe] at HQ hFi hox HK
                    rw [hoye] at HQ hFi hoy HK
                    obtain ⟨q, hq⟩ : ∃ z, pixI (mkPic a n4 f) ((x : Int) + ox) ((y : Int) + oy) = z := ⟨_, rfl⟩
                    rw [hq] at HQ hFi
                    unfold SaysB at HQ
                    obtain ⟨F, hF⟩ : ∃ z, WK i = z := ⟨_, rfl⟩
                    obtain ⟨F1, hF1⟩ : ∃ z, WK (i + 1) = z := ⟨_, rfl⟩
                    rw [hF]
                    rw [hF, hF1] at hFi
                    have HFi := Lib.hid hFi
                    have HF1' := Lib.hid hF1
                    have w1 : IntKind.i64.wrap ((x : Int) + ox) = (x : Int) + ox := IntWalk.i64_in _ (by omega)
                    have w2 : IntKind.i64.wrap ((y : Int) + oy) = (y : Int) + oy := IntWalk.i64_in _ (by omega)
                    clear hoxe hoye hq hF hF1 hFi CF C1 C2 C3
                    go_upto_region 28 with fail
                    cases F with
                    | false =>
                      have hf1 : F1 = false := HFi.out.trans (by rfl)
                      subst hf1
                      go_quiet (fail)
                      go_wp2_with fail
                      go_roundw
                      case rel => exact ⟨i + 1, by omega, by go_num, by rw [HF1'.out], Lib.hid (by first | exact HZ.out | exact HZ.out.drew | exact ⟨HZ.out.os, HZ.out.tape, HZ.out.output, HZ.out.size, HZ.out.block⟩)⟩
                      case measure => simp [intOf]; omega
                    | true =>
                      have hf1 : F1 = _ := HFi.out
                      rw [Bool.true_and] at hf1
                      subst hf1
                      go_region_held3 (fun w' => w'.cell? ⟨b_p, 0, none⟩ = some (.slice (some ⟨g1, 0, none⟩) n4 cap1) ∧ w'.cell? ⟨b_m, 0, none⟩ = some (.slice (some ⟨g3, 0, none⟩) ys.length cap3) ∧ w'.cell? ⟨g3, i * 2, none⟩ = some (.int .i64 ox) ∧ w'.cell? ⟨g3, i * 2 + 1, none⟩ = some (.int .i64 oy))
                        (first | exact HK.out _ HZ.out | exact HK.out _ HZ.out.drew | exact HK.out _ hBq)
                        (first | (go_at_call 26; refine (HQ.out _ HZ.out.drew).mono ?_; rintro e wq ⟨rfl, hb⟩; have hBq := (HZ.out.drew).trans (hb.mono (HZ.out.drew).size)))
                      go_wp2_with fail
                      go_roundw
                      case rel => exact ⟨i + 1, by omega, by go_num, by rw [HF1'.out], Lib.hid hBq⟩
                      case measure => simp [intOf]; omega
                  · have hie : i = ys.length := by omega
                    subst hie
                    obtain ⟨F, hF⟩ : ∃ z, FK xs.length = z := ⟨_, rfl⟩
                    obtain ⟨S, hS⟩ : ∃ z, SK xs.length = z := ⟨_, rfl⟩
                    obtain ⟨V, hV⟩ : ∃ z, WK ys.length = z := ⟨_, rfl⟩
                    rw [hF] at CF C1 C3 ⊢
                    rw [hS] at C2 ⊢
                    rw [hV] at C3 ⊢
                    have kF : (F != F) = false := by simp
                    have kS : (S != S) = false := by simp
                    have c_p := (HP.out _ HZ.out).1.cell
                    have c_e := (HP.out _ HZ.out).2.1.cell
                    clear hF hS hV HF1 HS1 HW1 HF0
                    go_wp2_with fail
                    refine (CF.out _ HZ.out).mono ?_
                    rintro e wa ⟨rfl, hb⟩
                    have H1 := Lib.hid (HZ.out.trans (hb.mono HZ.out.size))
                    have c_a := (HP.out _ H1.out).2.2.2.1.cell
                    clear hb HZ c_p c_e c_m CF
                    go_wp2_with fail
                    refine (C1.out _ H1.out).mono ?_
                    rintro e wb ⟨rfl, hb⟩
                    have H2 := Lib.hid (H1.out.trans (hb.mono H1.out.size))
                    have c_b := (HP.out _ H2.out).2.2.2.2.1.cell
                    clear hb H1 c_a C1
                    go_wp2_with fail
                    refine (C2.out _ H2.out).mono ?_
                    rintro e wc ⟨rfl, hb⟩
                    have H3 := Lib.hid (H2.out.trans (hb.mono H2.out.size))
                    have c_c := (HP.out _ H3.out).2.2.2.2.2.cell
                    clear hb H2 c_b C2
                    go_wp2_with fail
                    refine (C3.out _ H3.out).mono ?_
                    rintro e wd ⟨rfl, hb⟩
                    have H4 := Lib.hid (H3.out.trans (hb.mono H3.out.size))
                    clear hb H3 c_c C3
                    cases F with
                    | false =>
                      go_wp2_with fail
                      go_roundw
                      case rel => exact ⟨x + 1, by omega, by go_num, H4⟩
                      case measure => simp [intOf]; omega
                    | true =>
                      have kV : (V != V) = false := by simp
                      go_wp2_with fail
                      go_roundw
                      case rel => exact ⟨x + 1, by omega, by go_num, H4⟩
                      case measure => simp [intOf]; omega
          · obtain rfl : a = x := by omega
            go_wp2_with fail
            go_roundw
            case rel => exact ⟨y + 1, by omega, by go_num, HX⟩
            case measure => simp [intOf]; omega
      · obtain rfl : n4 = y := by omega
        go_wp2_with fail
        go_ret
        exact ⟨rfl, HBe.out.trans (HY.out.mono HBe.out.size)⟩
end Go.Proofs.YtabkkpifkkgpeaaDoor
