/- Contracts of single functions, and plain lemmas, on which the exact laws of this seat rest; each holds under the conditions that it states. -/
import Derived.Test.YtabkkpifkkgpeaaDoorCVD
import Derived.Test.YtabkkpifkkgpeaaDoorRI
namespace Go.Proofs.YtabkkpifkkgpeaaDoor
set_option linter.unusedVariables false
set_option linter.unusedSimpArgs false
open Go.RowKit
attribute [local go_sem] Oper.semAt_some

/-- three numbers in variables -/
def At3 (W : World) (pc pn pi : Nat) (c n i : Int) : Prop :=
  W.cell? ⟨pc, 0, none⟩ = some (.int .i64 c) ∧ W.cell? ⟨pn, 0, none⟩ = some (.int .i64 n) ∧ W.cell? ⟨pi, 0, none⟩ = some (.int .i64 i)
theorem At3.kept {w W : World} {pc pn pi : Nat} {c n i : Int} (h : At3 w pc pn pi c n i) (hb : Below w.heap.size w W) : At3 W pc pn pi c n i :=
  ⟨cell_kept hb h.1, cell_kept hb h.2.1, cell_kept hb h.2.2⟩

set_option maxHeartbeats 2000000 in
set_option maxRecDepth 100000 in
theorem spotWork_yes (pc pn pi : Nat) (c n i : Int) (w : World) (h : At3 w pc pn pi c n i) (hQ : QvP w) (hok : saOk c n i = true) :
    Calls Tryd.prog 52 #[.pointer (some ⟨pc, 0, none⟩), .pointer (some ⟨pn, 0, none⟩), .pointer (some ⟨pi, 0, none⟩)] w (fun e w' => e = .returned (.agg #[.int .i64 (saV c n i).1, .int .i64 (saV c n i).2]) ∧ Below w.heap.size w w') := by
  have hV : saV c n i = (cvF c.toNat n.toNat).getD i.toNat (0, 0) := by unfold saV; rw [if_pos hok]
  unfold saOk at hok
  rw [Bool.and_eq_true] at hok
  obtain ⟨ht, hi⟩ := hok
  have ht2 : inB c 0 3 = true ∧ inB n 0 4 = true := by simpa using ht
  have CT : Hid (∀ W, Calls Tryd.prog 49 #[.int .i64 c, .int .i64 n] W (fun e w' => e = .returned (.agg #[.int .i64 c, .int .i64 n]) ∧ Below W.heap.size W w')) := fun W => requiredTour_yes c n W ht2.1 ht2.2
  have CL : Hid (∀ W, Calls Tryd.prog 54 #[.agg #[.int .i64 c, .int .i64 n]] W (fun e w' => e = .returned (.int .i64 (sd n * sd n)) ∧ Below W.heap.size W w')) := fun W => by
    obtain ⟨c', n', rfl, rfl, h1, h2⟩ := tour_nat ht
    rw [sd_sq]
    exact length_any c' n' W h2
  have CX0 : ∀ W, Below w.heap.size w W → Calls Tryd.prog 50 #[.agg #[.int .i64 c, .int .i64 n]] W (TookSpots W (cvF c.toNat n.toNat)) := fun W hb => by
    obtain ⟨c', n', rfl, rfl, h1, h2⟩ := tour_nat ht
    simp only [Int.toNat_natCast]
    exact spots_made c' n' W h1 h2 (hQ.below hb)
  have hlen : ((cvF c.toNat n.toNat).length : Int) = sd n * sd n := by
    obtain ⟨c', n', rfl, rfl, h1, h2⟩ := tour_nat ht
    simp only [Int.toNat_natCast]
    rw [cvF_len, sd_sq]
  obtain ⟨e2, he2⟩ : ∃ e, sd n * sd n = e := ⟨_, rfl⟩
  rw [he2] at hi CL hlen
  obtain ⟨F, hF⟩ : ∃ F, cvF c.toNat n.toNat = F := ⟨_, rfl⟩
  rw [hF] at CX0 hlen hV
  have hi2 := inB_le hi
  obtain ⟨k, rfl⟩ : ∃ k : Nat, i = k := ⟨i.toNat, by omega⟩
  rw [Int.toNat_natCast] at hV
  have kF : k < F.length := by omega
  have CX : ∀ W, Below w.heap.size w W → Calls Tryd.prog 50 #[.agg #[.int .i64 c, .int .i64 n]] W (fun e w' => ∃ g cap, e = .returned (.slice (some ⟨g, 0, none⟩) F.length cap) ∧ (w'.cell? ⟨g, k * 2, none⟩ = some (.int .i64 (saV c n (k : Int)).1) ∧ w'.cell? ⟨g, k * 2 + 1, none⟩ = some (.int .i64 (saV c n (k : Int)).2)) ∧ Below W.heap.size W w') := fun W hb => (CX0 W hb).mono fun e w' ⟨g, cap, h1, h2, h3⟩ => by
    have sp := OwnS.spots h2
    rw [hV]
    exact ⟨g, cap, h1, ⟨(sp.2 k kF).1, (sp.2 k kF).2⟩, h3⟩
  obtain ⟨r1, hr1⟩ : ∃ r, (saV c n (k : Int)).1 = r := ⟨_, rfl⟩
  obtain ⟨r2, hr2⟩ : ∃ r, (saV c n (k : Int)).2 = r := ⟨_, rfl⟩
  rw [hr1, hr2] at CX ⊢
  obtain ⟨N, hN⟩ : ∃ N, F.length = N := ⟨_, rfl⟩
  rw [hN] at CX kF hlen
  have kk : (k : Int) < (N : Int) := by omega
  have kk0 : (0 : Int) ≤ (k : Int) := by omega
  have ke : (k : Int) < e2 := by omega
  have B0 := Lib.hid (Joins.below_alloc1 w (.cells #[.int .i64 0, .int .i64 0] 29))
  have HR0 : Hid (Var2 (w.alloc (.cells #[.int .i64 0, .int .i64 0] 29)) w.heap.size (0, 0)) := heap_alloc_last w _
  obtain ⟨W0, hW0⟩ : ∃ W0, w.alloc (.cells #[.int .i64 0, .int .i64 0] 29) = W0 := ⟨_, rfl⟩
  rw [hW0] at B0 HR0
  have HW := Lib.hid hW0
  have q00 := (h.kept B0.out)
  unfold At3 at q00
  obtain ⟨q0, q1, q2⟩ := q00
  have HA : Hid (∀ W, Below w.heap.size w W → At3 W pc pn pi c n (k : Int)) := fun W hb => h.kept hb
  have HCX := Lib.hid CX
  clear hV hi hi2 ht ht2 he2 hF hr1 hr2 hN hlen hW0 h hQ CX CX0
  go_enter Tryd.func52, Tryd.ntmps52
  go_upto_region 1 with fail
  rw [HW.out]
  go_wp2_with fail
  refine (CT.out _).mono ?_
  rintro e w1 ⟨rfl, hb1⟩
  have hbA := hb1.alloc hb1.size (.cells #[.int .i64 c, .int .i64 n] 71)
  have hp := heap_alloc_last w1 (.cells #[.int .i64 c, .int .i64 n] 71)
  have HBw := Lib.hid (B0.out.trans (hbA.mono B0.out.size))
  have HR2 := Lib.hid (HR0.out.below hbA)
  clear q0 q1 q2 hb1
  go_upto_region 2 with fail
  obtain ⟨W2, hW2⟩ : ∃ W2, w1.alloc (.cells #[.int .i64 c, .int .i64 n] 71) = W2 := ⟨_, rfl⟩
  obtain ⟨pt, hpt⟩ : ∃ p, w1.heap.size = p := ⟨_, rfl⟩
  rw [hW2] at hp HBw HR2
  rw [hpt] at hp
  have HW2 := Lib.hid hW2
  have HPt := Lib.hid hpt
  rw [HW2.out, HPt.out]
  have HX : Hid (∀ W, Below W2.heap.size W2 W → (W.cell? ⟨pt, 0, none⟩ = some (.int .i64 c) ∧ W.cell? ⟨pt, 1, none⟩ = some (.int .i64 n)) ∧ W.cell? ⟨pi, 0, none⟩ = some (.int .i64 (k : Int)) ∧ True) := fun W hb =>
    ⟨⟨cell_kept hb (by rw [Joins.cell_of_block hp 0]; rfl), cell_kept hb (by rw [Joins.cell_of_block hp 1]; rfl)⟩, (HA.out W (HBw.out.trans (hb.mono HBw.out.size))).2.2, trivial⟩
  clear hp hbA hW2 hpt
  refine wp_region_inv_at (by kernel_rfl) (fun A0 L A W => ∃ (b0 b1 b2 b3 b4 b5 b6 b7 b8 : Bool) (v8 v9 v10 v11 v12 v13 v14 v15 v16 : Value), L = #[b0, b1, b2, b3, b4, b5, b6, b7, b8] ∧ A = (((((((((A0.put (some 8) v8).put (some 9) v9).put (some 10) v10).put (some 11) v11).put (some 12) v12).put (some 13) v13).put (some 14) v14).put (some 15) v15).put (some 16) v16) ∧ (Below W2.heap.size W2 W) ∧ Hid (b0 = true → v8 = .int .i64 (k : Int)) ∧ Hid (b1 = true → v9 = .bool true) ∧ Hid (b2 = true → v10 = .bool true) ∧ Hid (b3 = true → v11 = .int .i64 (k : Int)) ∧ Hid (b4 = true → v12 = .agg #[.int .i64 c, .int .i64 n]) ∧ Hid (b5 = true → v13 = .int .i64 e2) ∧ Hid (b6 = true → v14 = .bool true) ∧ Hid (b7 = true → v15 = .bool true) ∧ Hid (b8 = true → v16 = .tuple #[])) ?_ ?_ ?_
  · intro A0
    refine ⟨false, false, false, false, false, false, false, false, false, A0.tmps.getD 8 undef, A0.tmps.getD 9 undef, A0.tmps.getD 10 undef, A0.tmps.getD 11 undef, A0.tmps.getD 12 undef, A0.tmps.getD 13 undef, A0.tmps.getD 14 undef, A0.tmps.getD 15 undef, A0.tmps.getD 16 undef, rfl, (by simp only [put_self]), (Below.refl _ _).drew, Lib.hid (fun hf => by cases hf), Lib.hid (fun hf => by cases hf), Lib.hid (fun hf => by cases hf), Lib.hid (fun hf => by cases hf), Lib.hid (fun hf => by cases hf), Lib.hid (fun hf => by cases hf), Lib.hid (fun hf => by cases hf), Lib.hid (fun hf => by cases hf), Lib.hid (fun hf => by cases hf)⟩
  · intro L A W hI i hi o ho K' hK
    have hlt := (ready_left hi).1
    have hun := (ready_left hi).2
    have haf := ready_after hi ho
    clear hi
    obtain ⟨b0, b1, b2, b3, b4, b5, b6, b7, b8, v8, v9, v10, v11, v12, v13, v14, v15, v16, rfl, rfl, hB, h0, h1, h2, h3, h4, h5, h6, h7, h8⟩ := hI
    have hc : i = 0 ∨ i = 1 ∨ i = 2 ∨ i = 3 ∨ i = 4 ∨ i = 5 ∨ i = 6 ∨ i = 7 ∨ i = 8 := by
      simp at hlt
      omega
    have qq := HX.out W hB
    obtain ⟨q0, q1, q2⟩ := qq
    rcases hc with rfl | rfl | rfl | rfl | rfl | rfl | rfl | rfl | rfl
    all_goals (obtain rfl := Option.some.inj ho; clear ho; simp [Region.binds] at haf hun; (try simp only [List.getElem_toArray, List.getElem_cons_zero, List.getElem_cons_succ]); simp only [Act.put, List.setIfInBounds_toArray, List.set_cons_zero, List.set_cons_succ])
    · -- operation 0
      replace hK := Lib.hid hK
      subst hun
      go_simp
      exact hK.out _ _ ⟨true, b1, b2, b3, b4, b5, b6, b7, b8, .int .i64 (k : Int), v9, v10, v11, v12, v13, v14, v15, v16, rfl, (by simp only [Act.put, List.setIfInBounds_toArray, List.set_cons_zero, List.set_cons_succ]), hB, Lib.hid (fun _ => rfl), h1, h2, h3, h4, h5, h6, h7, h8⟩
    · -- operation 1
      replace hK := Lib.hid hK
      obtain rfl := h0.out (by simp only [haf])
      subst hun
      go_simp
      exact hK.out _ _ ⟨b0, true, b2, b3, b4, b5, b6, b7, b8, .int .i64 (k : Int), .bool true, v10, v11, v12, v13, v14, v15, v16, rfl, (by simp only [Act.put, List.setIfInBounds_toArray, List.set_cons_zero, List.set_cons_succ]), hB, Lib.hid (fun _ => rfl), Lib.hid (fun _ => rfl), h2, h3, h4, h5, h6, h7, h8⟩
    · -- operation 2
      replace hK := Lib.hid hK
      obtain rfl := h1.out (by simp only [haf])
      subst hun
      go_simp
      exact hK.out _ _ ⟨b0, b1, true, b3, b4, b5, b6, b7, b8, v8, .bool true, .bool true, v11, v12, v13, v14, v15, v16, rfl, (by simp only [Act.put, List.setIfInBounds_toArray, List.set_cons_zero, List.set_cons_succ]), hB, h0, Lib.hid (fun _ => rfl), Lib.hid (fun _ => rfl), h3, h4, h5, h6, h7, h8⟩
    · -- operation 3
      replace hK := Lib.hid hK
      obtain rfl := h2.out (by simp only [haf])
      subst hun
      go_simp
      exact hK.out _ _ ⟨b0, b1, b2, true, b4, b5, b6, b7, b8, v8, v9, .bool true, .int .i64 (k : Int), v12, v13, v14, v15, v16, rfl, (by simp only [Act.put, List.setIfInBounds_toArray, List.set_cons_zero, List.set_cons_succ]), hB, h0, h1, Lib.hid (fun _ => rfl), Lib.hid (fun _ => rfl), h4, h5, h6, h7, h8⟩
    · -- operation 4
      replace hK := Lib.hid hK
      obtain rfl := h2.out (by simp only [haf])
      subst hun
      go_simp
      exact hK.out _ _ ⟨b0, b1, b2, b3, true, b5, b6, b7, b8, v8, v9, .bool true, v11, .agg #[.int .i64 c, .int .i64 n], v13, v14, v15, v16, rfl, (by simp only [Act.put, List.setIfInBounds_toArray, List.set_cons_zero, List.set_cons_succ]), hB, h0, h1, Lib.hid (fun _ => rfl), h3, Lib.hid (fun _ => rfl), h5, h6, h7, h8⟩
    · -- operation 5
      replace hK := Lib.hid hK
      obtain rfl := h2.out (by simp only [haf])
      obtain rfl := h4.out (by simp only [haf])
      subst hun
      go_simp
      refine (CL.out W).mono ?_
      rintro e W' ⟨rfl, hb⟩
      have hkept := fun kb (hk : kb < W.heap.size) => hb.block kb hk
      exact hK.out _ _ ⟨b0, b1, b2, b3, b4, true, b6, b7, b8, v8, v9, .bool true, v11, .agg #[.int .i64 c, .int .i64 n], .int .i64 e2, v14, v15, v16, rfl, (by simp only [Act.put, List.setIfInBounds_toArray, List.set_cons_zero, List.set_cons_succ]), hB.trans (hb.mono hB.size), h0, h1, Lib.hid (fun _ => rfl), h3, Lib.hid (fun _ => rfl), Lib.hid (fun _ => rfl), h6, h7, h8⟩
    · -- operation 6
      replace hK := Lib.hid hK
      obtain rfl := h2.out (by simp only [haf])
      obtain rfl := h3.out (by simp only [haf])
      obtain rfl := h5.out (by simp only [haf])
      subst hun
      go_simp
      exact hK.out _ _ ⟨b0, b1, b2, b3, b4, b5, true, b7, b8, v8, v9, .bool true, .int .i64 (k : Int), v12, .int .i64 e2, .bool true, v15, v16, rfl, (by simp only [Act.put, List.setIfInBounds_toArray, List.set_cons_zero, List.set_cons_succ]), hB, h0, h1, Lib.hid (fun _ => rfl), Lib.hid (fun _ => rfl), h4, Lib.hid (fun _ => rfl), Lib.hid (fun _ => rfl), h7, h8⟩
    · -- operation 7
      replace hK := Lib.hid hK
      obtain rfl := h2.out (by simp only [haf])
      obtain rfl := h6.out (by simp only [haf])
      subst hun
      go_simp
      exact hK.out _ _ ⟨b0, b1, b2, b3, b4, b5, b6, true, b8, v8, v9, .bool true, v11, v12, v13, .bool true, .bool true, v16, rfl, (by simp only [Act.put, List.setIfInBounds_toArray, List.set_cons_zero, List.set_cons_succ]), hB, h0, h1, Lib.hid (fun _ => rfl), h3, h4, h5, Lib.hid (fun _ => rfl), Lib.hid (fun _ => rfl), h8⟩
    · -- operation 8
      replace hK := Lib.hid hK
      obtain rfl := h7.out (by simp only [haf])
      subst hun
      go_simp
      refine (require_yes W).mono ?_
      rintro e W' ⟨rfl, hb⟩
      replace hb : Below W.heap.size W W' := by rw [hb]; exact Below.refl _ _
      have hkept := fun kb (hk : kb < W.heap.size) => hb.block kb hk
      exact hK.out _ _ ⟨b0, b1, b2, b3, b4, b5, b6, b7, true, v8, v9, v10, v11, v12, v13, v14, .bool true, .tuple #[], rfl, (by simp only [Act.put, List.setIfInBounds_toArray, List.set_cons_zero, List.set_cons_succ]), hB.trans (hb.mono hB.size), h0, h1, h2, h3, h4, h5, h6, Lib.hid (fun _ => rfl), Lib.hid (fun _ => rfl)⟩
  intro L A W hI hr
  obtain ⟨b0, b1, b2, b3, b4, b5, b6, b7, b8, v8, v9, v10, v11, v12, v13, v14, v15, v16, rfl, rfl, hB, h0, h1, h2, h3, h4, h5, h6, h7, h8⟩ := hI
  have d0 := ready_done hr 0 _ rfl (by simp [Region.binds])
  simp at d0
  subst d0
  have d1 := ready_done hr 1 _ rfl (by simp [Region.binds])
  simp at d1
  subst d1
  have d2 := ready_done hr 2 _ rfl (by simp [Region.binds])
  simp at d2
  subst d2
  have d3 := ready_done hr 3 _ rfl (by simp [Region.binds])
  have d4 := ready_done hr 4 _ rfl (by simp [Region.binds])
  simp at d3 d4
  subst d3 d4
  have d5 := ready_done hr 5 _ rfl (by simp [Region.binds])
  simp at d5
  subst d5
  have d6 := ready_done hr 6 _ rfl (by simp [Region.binds])
  simp at d6
  subst d6
  have d7 := ready_done hr 7 _ rfl (by simp [Region.binds])
  simp at d7
  subst d7
  have d8 := ready_done hr 8 _ rfl (by simp [Region.binds])
  simp at d8
  subst d8
  obtain rfl := h0.out rfl
  obtain rfl := h1.out rfl
  obtain rfl := h2.out rfl
  obtain rfl := h3.out rfl
  obtain rfl := h4.out rfl
  obtain rfl := h5.out rfl
  obtain rfl := h6.out rfl
  obtain rfl := h7.out rfl
  obtain rfl := h8.out rfl
  simp only [Act.put, List.setIfInBounds_toArray, List.set_cons_zero, List.set_cons_succ]
  clear hr h0 h1 h2 h3 h4 h5 h6 h7 h8
  have HB2 := Lib.hid hB
  clear hB
  have HX3 : Hid (∀ W3, Below W2.heap.size W2 W3 → ∀ W, Below W3.heap.size W3 W → (W.cell? ⟨pt, 0, none⟩ = some (.int .i64 c) ∧ W.cell? ⟨pt, 1, none⟩ = some (.int .i64 n)) ∧ W.cell? ⟨pi, 0, none⟩ = some (.int .i64 (k : Int)) ∧ True) := fun W3 hb3 W hb => HX.out W (hb3.trans (hb.mono hb3.size))
  have HR3 : Hid (∀ W3, Below W2.heap.size W2 W3 → ∀ W, Below W3.heap.size W3 W → Var2 W w.heap.size (0, 0)) := fun W3 hb3 W hb => (HR2.out.below hb3).below hb
  have CX : Hid (∀ W3, Below W2.heap.size W2 W3 → ∀ W, Below W3.heap.size W3 W → Calls Tryd.prog 50 #[.agg #[.int .i64 c, .int .i64 n]] W (fun e w' => ∃ g cap, e = .returned (.slice (some ⟨g, 0, none⟩) N cap) ∧ (w'.cell? ⟨g, k * 2, none⟩ = some (.int .i64 r1) ∧ w'.cell? ⟨g, k * 2 + 1, none⟩ = some (.int .i64 r2)) ∧ Below W.heap.size W w')) := fun W3 hb3 W hb => HCX.out W (HBw.out.trans ((hb3.trans (hb.mono hb3.size)).mono HBw.out.size))
  go_upto_region 3 with fail
  revert HB2
  generalize W = W3
  intro HB2
  replace HX3 := Lib.hid (HX3.out W3 HB2.out)
  replace HR3 := Lib.hid (HR3.out W3 HB2.out)
  replace CX := Lib.hid (CX.out W3 HB2.out)
  have HBz := Lib.hid (HBw.out.trans (HB2.out.mono HBw.out.size))
  clear HX HB2 HCX CT CL
  refine wp_region_inv_at (by kernel_rfl) (fun A0 L A W => ∃ (b0 b1 b2 b3 b4 b5 : Bool) (v17 v18 v19 v20 v21 : Value) (g5 c5 : Nat), L = #[b0, b1, b2, b3, b4, b5] ∧ A = (((((A0.put (some 17) v17).put (some 18) v18).put (some 19) v19).put (some 20) v20).put (some 21) v21) ∧ (∃ Wp, Below W3.heap.size W3 Wp ∧ Hid (b1 = true → Wp.cell? ⟨g5, k * 2, none⟩ = some (.int .i64 r1) ∧ Wp.cell? ⟨g5, k * 2 + 1, none⟩ = some (.int .i64 r2)) ∧ W = (if b5 = true then (Wp.setCell ⟨w.heap.size, 0, none⟩ (.int .i64 r1)).setCell ⟨w.heap.size, 1, none⟩ (.int .i64 r2) else Wp)) ∧ Hid (b0 = true → v17 = .agg #[.int .i64 c, .int .i64 n]) ∧ Hid (b1 = true → v18 = .slice (some ⟨g5, 0, none⟩) N c5) ∧ Hid (b2 = true → v19 = .int .i64 (k : Int)) ∧ Hid (b3 = true → v20 = .pointer (some ⟨g5, k * 2, none⟩)) ∧ Hid (b4 = true → v21 = .agg #[.int .i64 r1, .int .i64 r2]) ∧ Hid ((b0 = false → b5 = false) ∧ (b2 = false → b5 = false) ∧ (b3 = false → b5 = false) ∧ (b4 = false → b5 = false)) ∧ Hid (b3 = true → b1 = true)) ?_ ?_ ?_
  · intro A0
    refine ⟨false, false, false, false, false, false, A0.tmps.getD 17 undef, A0.tmps.getD 18 undef, A0.tmps.getD 19 undef, A0.tmps.getD 20 undef, A0.tmps.getD 21 undef, 0, 0, rfl, (by simp only [put_self]), ⟨_, (Below.refl _ _).drew, Lib.hid (fun hf => by cases hf), rfl⟩, Lib.hid (fun hf => by cases hf), Lib.hid (fun hf => by cases hf), Lib.hid (fun hf => by cases hf), Lib.hid (fun hf => by cases hf), Lib.hid (fun hf => by cases hf), Lib.hid ⟨fun _ => rfl, fun _ => rfl, fun _ => rfl, fun _ => rfl⟩, Lib.hid (fun hf => by cases hf)⟩
  · intro L A W hI i hi o ho K' hK
    have hlt := (ready_left hi).1
    have hun := (ready_left hi).2
    have haf := ready_after hi ho
    clear hi
    obtain ⟨b0, b1, b2, b3, b4, b5, v17, v18, v19, v20, v21, g5, c5, rfl, rfl, hB, h0, h1, h2, h3, h4, p, u3_1⟩ := hI
    have hc : i = 0 ∨ i = 1 ∨ i = 2 ∨ i = 3 ∨ i = 4 ∨ i = 5 := by
      simp at hlt
      omega
    rcases hc with rfl | rfl | rfl | rfl | rfl | rfl
    all_goals (obtain rfl := Option.some.inj ho; clear ho; simp [Region.binds] at haf hun; (try simp only [List.getElem_toArray, List.getElem_cons_zero, List.getElem_cons_succ]); simp only [Act.put, List.setIfInBounds_toArray, List.set_cons_zero, List.set_cons_succ])
    · -- operation 0
      replace hK := Lib.hid hK
      have hlast : b5 = false := p.out.1 hun
      subst hlast
      obtain ⟨Wp, hB, hgf, hWp⟩ := hB
      have hWq : W = Wp := by simpa using hWp
      clear hWp
      subst hWq
      have qq := HX3.out W hB
      obtain ⟨q0, q1, q2⟩ := qq
      have qR := HR3.out W hB
      have qr0 := qR.c0
      have qr1 := qR.c1
      have qf0 := two_free qR 0
      have qf1 := two_free qR 1
      subst hun
      go_simp
      exact hK.out _ _ ⟨true, b1, b2, b3, b4, false, .agg #[.int .i64 c, .int .i64 n], v18, v19, v20, v21, g5, c5, rfl, (by simp only [Act.put, List.setIfInBounds_toArray, List.set_cons_zero, List.set_cons_succ]), ⟨_, hB, hgf, rfl⟩, Lib.hid (fun _ => rfl), h1, h2, h3, h4, Lib.hid ⟨(fun hf => by cases hf), (fun _ => rfl), (fun _ => rfl), (fun _ => rfl)⟩, u3_1⟩
    · -- operation 1
      replace hK := Lib.hid hK
      have hmid0 : b3 = false := by cases hb : b3 with | false => rfl | true => exact absurd (show true = false from (u3_1.out hb).symm.trans hun) (by decide)
      have hlast : b5 = false := p.out.2.2.1 hmid0
      clear hmid0
      subst hlast
      obtain ⟨Wp, hB, hgf, hWp⟩ := hB
      have hWq : W = Wp := by simpa using hWp
      clear hWp
      subst hWq
      have qq := HX3.out W hB
      obtain ⟨q0, q1, q2⟩ := qq
      have qR := HR3.out W hB
      have qr0 := qR.c0
      have qr1 := qR.c1
      have qf0 := two_free qR 0
      have qf1 := two_free qR 1
      obtain rfl := h0.out (by simp only [haf])
      subst hun
      go_simp
      refine (CX.out W hB).mono ?_
      rintro e W' ⟨g5n, c5n, rfl, hown, hb⟩
      have hkept := fun kb (hk : kb < W.heap.size) => hb.block kb hk
      exact hK.out _ _ ⟨b0, true, b2, b3, b4, false, .agg #[.int .i64 c, .int .i64 n], .slice (some ⟨g5n, 0, none⟩) N c5n, v19, v20, v21, g5n, c5n, rfl, (by simp only [Act.put, List.setIfInBounds_toArray, List.set_cons_zero, List.set_cons_succ]), ⟨_, hB.trans (hb.mono hB.size), Lib.hid (fun _ => hown), rfl⟩, Lib.hid (fun _ => rfl), Lib.hid (fun _ => rfl), h2, Lib.hid (fun hx => absurd (u3_1.out hx) (by decide)), h4, Lib.hid ⟨(fun _ => rfl), (fun _ => rfl), (fun _ => rfl), (fun _ => rfl)⟩, Lib.hid (fun _ => rfl)⟩
    · -- operation 2
      replace hK := Lib.hid hK
      have hlast : b5 = false := p.out.2.1 hun
      subst hlast
      obtain ⟨Wp, hB, hgf, hWp⟩ := hB
      have hWq : W = Wp := by simpa using hWp
      clear hWp
      subst hWq
      have qq := HX3.out W hB
      obtain ⟨q0, q1, q2⟩ := qq
      have qR := HR3.out W hB
      have qr0 := qR.c0
      have qr1 := qR.c1
      have qf0 := two_free qR 0
      have qf1 := two_free qR 1
      subst hun
      go_simp
      exact hK.out _ _ ⟨b0, b1, true, b3, b4, false, v17, v18, .int .i64 (k : Int), v20, v21, g5, c5, rfl, (by simp only [Act.put, List.setIfInBounds_toArray, List.set_cons_zero, List.set_cons_succ]), ⟨_, hB, hgf, rfl⟩, h0, h1, Lib.hid (fun _ => rfl), h3, h4, Lib.hid ⟨(fun _ => rfl), (fun hf => by cases hf), (fun _ => rfl), (fun _ => rfl)⟩, u3_1⟩
    · -- operation 3
      replace hK := Lib.hid hK
      have hlast : b5 = false := p.out.2.2.1 hun
      subst hlast
      obtain ⟨Wp, hB, hgf, hWp⟩ := hB
      have hWq : W = Wp := by simpa using hWp
      clear hWp
      subst hWq
      have qq := HX3.out W hB
      obtain ⟨q0, q1, q2⟩ := qq
      have qR := HR3.out W hB
      have qr0 := qR.c0
      have qr1 := qR.c1
      have qf0 := two_free qR 0
      have qf1 := two_free qR 1
      obtain rfl := h1.out (by simp only [haf])
      obtain rfl := h2.out (by simp only [haf])
      subst hun
      go_simp
      exact hK.out _ _ ⟨b0, b1, b2, true, b4, false, v17, .slice (some ⟨g5, 0, none⟩) N c5, .int .i64 (k : Int), .pointer (some ⟨g5, k * 2, none⟩), v21, g5, c5, rfl, (by simp only [Act.put, List.setIfInBounds_toArray, List.set_cons_zero, List.set_cons_succ]), ⟨_, hB, hgf, rfl⟩, h0, Lib.hid (fun _ => rfl), Lib.hid (fun _ => rfl), Lib.hid (fun _ => rfl), h4, Lib.hid ⟨(fun _ => rfl), (fun _ => rfl), (fun hf => by cases hf), (fun _ => rfl)⟩, Lib.hid (fun _ => (by simp only [haf]))⟩
    · -- operation 4
      replace hK := Lib.hid hK
      have hlast : b5 = false := p.out.2.2.2 hun
      subst hlast
      obtain ⟨Wp, hB, hgf, hWp⟩ := hB
      have hWq : W = Wp := by simpa using hWp
      clear hWp
      subst hWq
      have qq := HX3.out W hB
      obtain ⟨q0, q1, q2⟩ := qq
      have qR := HR3.out W hB
      have qr0 := qR.c0
      have qr1 := qR.c1
      have qf0 := two_free qR 0
      have qf1 := two_free qR 1
      obtain rfl := h3.out (by simp only [haf])
      subst hun
      obtain ⟨y0, y1⟩ := hgf.out (u3_1.out (by simp only [haf]))
      go_simp
      exact hK.out _ _ ⟨b0, b1, b2, b3, true, false, v17, v18, v19, .pointer (some ⟨g5, k * 2, none⟩), .agg #[.int .i64 r1, .int .i64 r2], g5, c5, rfl, (by simp only [Act.put, List.setIfInBounds_toArray, List.set_cons_zero, List.set_cons_succ]), ⟨_, hB, hgf, rfl⟩, h0, h1, h2, Lib.hid (fun _ => rfl), Lib.hid (fun _ => rfl), Lib.hid ⟨(fun _ => rfl), (fun _ => rfl), (fun _ => rfl), (fun hf => by cases hf)⟩, u3_1⟩
    · -- operation 5
      replace hK := Lib.hid hK
      subst hun
      obtain ⟨Wp, hB, hgf, hWp⟩ := hB
      have hWq : W = Wp := by simpa using hWp
      clear hWp
      subst hWq
      have qq := HX3.out W hB
      obtain ⟨q0, q1, q2⟩ := qq
      have qR := HR3.out W hB
      have qr0 := qR.c0
      have qr1 := qR.c1
      have qf0 := two_free qR 0
      have qf1 := two_free qR 1
      obtain rfl := h4.out (by simp only [haf])
      go_simp
      exact hK.out _ _ ⟨b0, b1, b2, b3, b4, true, v17, v18, v19, v20, .agg #[.int .i64 r1, .int .i64 r2], g5, c5, rfl, (by simp only [Act.put, List.setIfInBounds_toArray, List.set_cons_zero, List.set_cons_succ]), ⟨_, hB, hgf, rfl⟩, h0, h1, h2, h3, Lib.hid (fun _ => rfl), Lib.hid ⟨(fun hf => absurd (show false = true from hf.symm.trans (by simp only [haf])) (by decide)), (fun hf => absurd (show false = true from hf.symm.trans (by simp only [haf])) (by decide)), (fun hf => absurd (show false = true from hf.symm.trans (by simp only [haf])) (by decide)), (fun hf => absurd (show false = true from hf.symm.trans (by simp only [haf])) (by decide))⟩, u3_1⟩
  intro L A W hI hr
  obtain ⟨b0, b1, b2, b3, b4, b5, v17, v18, v19, v20, v21, g5, c5, rfl, rfl, hB, h0, h1, h2, h3, h4, p, u3_1⟩ := hI
  have d0 := ready_done hr 0 _ rfl (by simp [Region.binds])
  have d2 := ready_done hr 2 _ rfl (by simp [Region.binds])
  simp at d0 d2
  subst d0 d2
  have d1 := ready_done hr 1 _ rfl (by simp [Region.binds])
  simp at d1
  subst d1
  have d3 := ready_done hr 3 _ rfl (by simp [Region.binds])
  simp at d3
  subst d3
  have d4 := ready_done hr 4 _ rfl (by simp [Region.binds])
  simp at d4
  subst d4
  have d5 := ready_done hr 5 _ rfl (by simp [Region.binds])
  simp at d5
  subst d5
  obtain rfl := h0.out rfl
  obtain rfl := h1.out rfl
  obtain rfl := h2.out rfl
  obtain rfl := h3.out rfl
  obtain rfl := h4.out rfl
  obtain ⟨Wp, hB, hgf, hWp⟩ := hB
  have hgf := hgf.out rfl
  have hWq : W = (Wp.setCell ⟨w.heap.size, 0, none⟩ (.int .i64 r1)).setCell ⟨w.heap.size, 1, none⟩ (.int .i64 r2) := by simpa using hWp
  clear hWp
  subst hWq
  simp only [Act.put, List.setIfInBounds_toArray, List.set_cons_zero, List.set_cons_succ]
  clear hr h0 h1 h2 h3 h4 p u3_1
  have qR := Lib.hid (HR3.out Wp hB)
  have B9 := Lib.hid (HBz.out.trans (hB.mono HBz.out.size))
  clear hB
  go_wp2
  exact bodyPost_ret (results_cell1 (p := 3) (ty := 29) Tryd.results52 _ _ w.heap.size 29 _ (0, 0) _ rfl (qR.out.upd r1 r2) Tryd.underlying29 rfl infoSp1) rfl ⟨rfl, (B9.out.setCell (p := ⟨w.heap.size, 0, none⟩) (Nat.le_refl _) _).setCell (p := ⟨w.heap.size, 1, none⟩) (Nat.le_refl _) _⟩

set_option maxHeartbeats 2000000 in
set_option maxRecDepth 100000 in
theorem spotWork_no (pc pn pi : Nat) (c n i : Int) (w : World) (h : At3 w pc pn pi c n i) (hr : NoRes w) (hok : saOk c n i = false) :
    Calls Tryd.prog 52 #[.pointer (some ⟨pc, 0, none⟩), .pointer (some ⟨pn, 0, none⟩), .pointer (some ⟨pi, 0, none⟩)] w (fun e w' => (∃ T x, e = .panicked [{ v := .iface T x, recovered := false }]) ∧ Below w.heap.size w w') := by
  have B0 := Lib.hid (Joins.below_alloc1 w (.cells #[.int .i64 0, .int .i64 0] 29))
  obtain ⟨W0, hW0⟩ : ∃ W0, w.alloc (.cells #[.int .i64 0, .int .i64 0] 29) = W0 := ⟨_, rfl⟩
  rw [hW0] at B0
  have HW := Lib.hid hW0
  have q00 := (h.kept B0.out)
  unfold At3 at q00
  obtain ⟨q0, q1, q2⟩ := q00
  have HA : Hid (∀ W, Below w.heap.size w W → At3 W pc pn pi c n i) := fun W hb => h.kept hb
  cases ht : (inB c 0 3 && inB n 0 4) with
  | false =>
    have CT := Lib.hid (requiredTour_no c n W0 ht (hr.below B0.out))
    clear hW0 h hr hok ht
    go_enter Tryd.func52, Tryd.ntmps52
    go_upto_region 1 with fail
    rw [HW.out]
    go_wp2_with fail
    refine CT.out.mono ?_
    rintro e w1 ⟨⟨T, x, rfl⟩, hb⟩
    have B1 := Lib.hid (B0.out.trans (hb.mono B0.out.size))
    clear hb
    go_wp2
    exact ⟨rfl, ⟨T, x, rfl⟩, B1.out⟩
  | true =>
    have ht2 : inB c 0 3 = true ∧ inB n 0 4 = true := by simpa using ht
    have CT : Hid (∀ W, Calls Tryd.prog 49 #[.int .i64 c, .int .i64 n] W (fun e w' => e = .returned (.agg #[.int .i64 c, .int .i64 n]) ∧ Below W.heap.size W w')) := fun W => requiredTour_yes c n W ht2.1 ht2.2
    have CL : Hid (∀ W, Calls Tryd.prog 54 #[.agg #[.int .i64 c, .int .i64 n]] W (fun e w' => e = .returned (.int .i64 (sd n * sd n)) ∧ Below W.heap.size W w')) := fun W => by
      obtain ⟨c', n', rfl, rfl, h1, h2⟩ := tour_nat ht
      rw [sd_sq]
      exact length_any c' n' W h2
    unfold saOk at hok
    rw [ht, Bool.true_and] at hok
    obtain ⟨e2, he2⟩ : ∃ e, sd n * sd n = e := ⟨_, rfl⟩
    rw [he2] at hok CL
    have CN0 : ∀ W, Below w.heap.size w W → Calls Tryd.prog 53 #[.bool false] W fun e w' => (∃ T x, e = .panicked [{ v := .iface T x, recovered := false }]) ∧ w' = W := fun W hb => (require_no W (hr.below hb)).mono fun e w' ⟨T, x, h1, h2⟩ => ⟨⟨T, x, h1⟩, h2⟩
    have HCN := Lib.hid CN0
    have hno : ¬ (0 ≤ i ∧ i < e2) := fun h => by
      unfold inB at hok
      have h2 : i ≤ e2 - 1 := by omega
      simp [h.1, h2] at hok
    clear hW0 h hr hok ht ht2 he2 CN0
    go_enter Tryd.func52, Tryd.ntmps52
    go_upto_region 1 with fail
    rw [HW.out]
    go_wp2_with fail
    refine (CT.out _).mono ?_
    rintro e w1 ⟨rfl, hb1⟩
    have hbA := hb1.alloc hb1.size (.cells #[.int .i64 c, .int .i64 n] 71)
    have hp := heap_alloc_last w1 (.cells #[.int .i64 c, .int .i64 n] 71)
    have HBw := Lib.hid (B0.out.trans (hbA.mono B0.out.size))
    clear q0 q1 q2 hb1
    go_upto_region 2 with fail
    obtain ⟨W2, hW2⟩ : ∃ W2, w1.alloc (.cells #[.int .i64 c, .int .i64 n] 71) = W2 := ⟨_, rfl⟩
    obtain ⟨pt, hpt⟩ : ∃ p, w1.heap.size = p := ⟨_, rfl⟩
    rw [hW2] at hp HBw
    rw [hpt] at hp
    have HW2 := Lib.hid hW2
    have HPt := Lib.hid hpt
    rw [HW2.out, HPt.out]
    have HX : Hid (∀ W, Below W2.heap.size W2 W → (W.cell? ⟨pt, 0, none⟩ = some (.int .i64 c) ∧ W.cell? ⟨pt, 1, none⟩ = some (.int .i64 n)) ∧ W.cell? ⟨pi, 0, none⟩ = some (.int .i64 i) ∧ True) := fun W hb =>
      ⟨⟨cell_kept hb (by rw [Joins.cell_of_block hp 0]; rfl), cell_kept hb (by rw [Joins.cell_of_block hp 1]; rfl)⟩, (HA.out W (HBw.out.trans (hb.mono HBw.out.size))).2.2, trivial⟩
    have CN : Hid (∀ W, Below W2.heap.size W2 W → Calls Tryd.prog 53 #[.bool false] W fun e w' => (∃ T x, e = .panicked [{ v := .iface T x, recovered := false }]) ∧ w' = W) := fun W hb => HCN.out W (HBw.out.trans (hb.mono HBw.out.size))
    clear hp hbA hW2 hpt HCN
    by_cases k0 : 0 ≤ i
    · have k1 : ¬ i < e2 := fun h => hno ⟨k0, h⟩
      clear hno
      refine wp_region_inv_at (by kernel_rfl) (fun A0 L A W => ∃ (b0 b1 b2 b3 b4 b5 b6 b7 b8 : Bool) (v8 v9 v10 v11 v12 v13 v14 v15 v16 : Value), L = #[b0, b1, b2, b3, b4, b5, b6, b7, b8] ∧ A = (((((((((A0.put (some 8) v8).put (some 9) v9).put (some 10) v10).put (some 11) v11).put (some 12) v12).put (some 13) v13).put (some 14) v14).put (some 15) v15).put (some 16) v16) ∧ (Below W2.heap.size W2 W) ∧ Hid (b0 = true → v8 = .int .i64 i) ∧ Hid (b1 = true → v9 = .bool true) ∧ Hid (b2 = true → v10 = .bool true) ∧ Hid (b3 = true → v11 = .int .i64 i) ∧ Hid (b4 = true → v12 = .agg #[.int .i64 c, .int .i64 n]) ∧ Hid (b5 = true → v13 = .int .i64 e2) ∧ Hid (b6 = true → v14 = .bool false) ∧ Hid (b7 = true → v15 = .bool false) ∧ Hid (b8 = true → False)) ?_ ?_ ?_
      · intro A0
        refine ⟨false, false, false, false, false, false, false, false, false, A0.tmps.getD 8 undef, A0.tmps.getD 9 undef, A0.tmps.getD 10 undef, A0.tmps.getD 11 undef, A0.tmps.getD 12 undef, A0.tmps.getD 13 undef, A0.tmps.getD 14 undef, A0.tmps.getD 15 undef, A0.tmps.getD 16 undef, rfl, (by simp only [put_self]), (Below.refl _ _).drew, Lib.hid (fun hf => by cases hf), Lib.hid (fun hf => by cases hf), Lib.hid (fun hf => by cases hf), Lib.hid (fun hf => by cases hf), Lib.hid (fun hf => by cases hf), Lib.hid (fun hf => by cases hf), Lib.hid (fun hf => by cases hf), Lib.hid (fun hf => by cases hf), Lib.hid (fun hf => by cases hf)⟩
      · intro L A W hI i hi o ho K' hK
        have hlt := (ready_left hi).1
        have hun := (ready_left hi).2
        have haf := ready_after hi ho
        clear hi
        obtain ⟨b0, b1, b2, b3, b4, b5, b6, b7, b8, v8, v9, v10, v11, v12, v13, v14, v15, v16, rfl, rfl, hB, h0, h1, h2, h3, h4, h5, h6, h7, h8⟩ := hI
        have hc : i = 0 ∨ i = 1 ∨ i = 2 ∨ i = 3 ∨ i = 4 ∨ i = 5 ∨ i = 6 ∨ i = 7 ∨ i = 8 := by
          simp at hlt
          omega
        have qq := HX.out W hB
        obtain ⟨q0, q1, q2⟩ := qq
        rcases hc with rfl | rfl | rfl | rfl | rfl | rfl | rfl | rfl | rfl
        all_goals (obtain rfl := Option.some.inj ho; clear ho; simp [Region.binds] at haf hun; (try simp only [List.getElem_toArray, List.getElem_cons_zero, List.getElem_cons_succ]); simp only [Act.put, List.setIfInBounds_toArray, List.set_cons_zero, List.set_cons_succ])
        · -- operation 0
          replace hK := Lib.hid hK
          subst hun
          go_simp
          exact hK.out _ _ ⟨true, b1, b2, b3, b4, b5, b6, b7, b8, .int .i64 i, v9, v10, v11, v12, v13, v14, v15, v16, rfl, (by simp only [Act.put, List.setIfInBounds_toArray, List.set_cons_zero, List.set_cons_succ]), hB, Lib.hid (fun _ => rfl), h1, h2, h3, h4, h5, h6, h7, h8⟩
        · -- operation 1
          replace hK := Lib.hid hK
          obtain rfl := h0.out (by simp only [haf])
          subst hun
          go_simp
          exact hK.out _ _ ⟨b0, true, b2, b3, b4, b5, b6, b7, b8, .int .i64 i, .bool true, v10, v11, v12, v13, v14, v15, v16, rfl, (by simp only [Act.put, List.setIfInBounds_toArray, List.set_cons_zero, List.set_cons_succ]), hB, Lib.hid (fun _ => rfl), Lib.hid (fun _ => rfl), h2, h3, h4, h5, h6, h7, h8⟩
        · -- operation 2
          replace hK := Lib.hid hK
          obtain rfl := h1.out (by simp only [haf])
          subst hun
          go_simp
          exact hK.out _ _ ⟨b0, b1, true, b3, b4, b5, b6, b7, b8, v8, .bool true, .bool true, v11, v12, v13, v14, v15, v16, rfl, (by simp only [Act.put, List.setIfInBounds_toArray, List.set_cons_zero, List.set_cons_succ]), hB, h0, Lib.hid (fun _ => rfl), Lib.hid (fun _ => rfl), h3, h4, h5, h6, h7, h8⟩
        · -- operation 3
          replace hK := Lib.hid hK
          obtain rfl := h2.out (by simp only [haf])
          subst hun
          go_simp
          exact hK.out _ _ ⟨b0, b1, b2, true, b4, b5, b6, b7, b8, v8, v9, .bool true, .int .i64 i, v12, v13, v14, v15, v16, rfl, (by simp only [Act.put, List.setIfInBounds_toArray, List.set_cons_zero, List.set_cons_succ]), hB, h0, h1, Lib.hid (fun _ => rfl), Lib.hid (fun _ => rfl), h4, h5, h6, h7, h8⟩
        · -- operation 4
          replace hK := Lib.hid hK
          obtain rfl := h2.out (by simp only [haf])
          subst hun
          go_simp
          exact hK.out _ _ ⟨b0, b1, b2, b3, true, b5, b6, b7, b8, v8, v9, .bool true, v11, .agg #[.int .i64 c, .int .i64 n], v13, v14, v15, v16, rfl, (by simp only [Act.put, List.setIfInBounds_toArray, List.set_cons_zero, List.set_cons_succ]), hB, h0, h1, Lib.hid (fun _ => rfl), h3, Lib.hid (fun _ => rfl), h5, h6, h7, h8⟩
        · -- operation 5
          replace hK := Lib.hid hK
          obtain rfl := h2.out (by simp only [haf])
          obtain rfl := h4.out (by simp only [haf])
          subst hun
          go_simp
          refine (CL.out W).mono ?_
          rintro e W' ⟨rfl, hb⟩
          have hkept := fun kb (hk : kb < W.heap.size) => hb.block kb hk
          exact hK.out _ _ ⟨b0, b1, b2, b3, b4, true, b6, b7, b8, v8, v9, .bool true, v11, .agg #[.int .i64 c, .int .i64 n], .int .i64 e2, v14, v15, v16, rfl, (by simp only [Act.put, List.setIfInBounds_toArray, List.set_cons_zero, List.set_cons_succ]), hB.trans (hb.mono hB.size), h0, h1, Lib.hid (fun _ => rfl), h3, Lib.hid (fun _ => rfl), Lib.hid (fun _ => rfl), h6, h7, h8⟩
        · -- operation 6
          replace hK := Lib.hid hK
          obtain rfl := h2.out (by simp only [haf])
          obtain rfl := h3.out (by simp only [haf])
          obtain rfl := h5.out (by simp only [haf])
          subst hun
          go_simp
          exact hK.out _ _ ⟨b0, b1, b2, b3, b4, b5, true, b7, b8, v8, v9, .bool true, .int .i64 i, v12, .int .i64 e2, .bool false, v15, v16, rfl, (by simp only [Act.put, List.setIfInBounds_toArray, List.set_cons_zero, List.set_cons_succ]), hB, h0, h1, Lib.hid (fun _ => rfl), Lib.hid (fun _ => rfl), h4, Lib.hid (fun _ => rfl), Lib.hid (fun _ => rfl), h7, h8⟩
        · -- operation 7
          replace hK := Lib.hid hK
          obtain rfl := h2.out (by simp only [haf])
          obtain rfl := h6.out (by simp only [haf])
          subst hun
          go_simp
          exact hK.out _ _ ⟨b0, b1, b2, b3, b4, b5, b6, true, b8, v8, v9, .bool true, v11, v12, v13, .bool false, .bool false, v16, rfl, (by simp only [Act.put, List.setIfInBounds_toArray, List.set_cons_zero, List.set_cons_succ]), hB, h0, h1, Lib.hid (fun _ => rfl), h3, h4, h5, Lib.hid (fun _ => rfl), Lib.hid (fun _ => rfl), h8⟩
        · -- operation 8
          replace hK := Lib.hid hK
          obtain rfl := h7.out (by simp only [haf])
          subst hun
          go_simp
          refine (CN.out W hB).mono ?_
          rintro e W' ⟨⟨T, p, rfl⟩, rfl⟩
          go_wp2
          exact ⟨rfl, ⟨T, p, rfl⟩, HBw.out.trans (hB.mono HBw.out.size)⟩
      intro L A W hI hr
      obtain ⟨b0, b1, b2, b3, b4, b5, b6, b7, b8, v8, v9, v10, v11, v12, v13, v14, v15, v16, rfl, rfl, hB, h0, h1, h2, h3, h4, h5, h6, h7, h8⟩ := hI
      have d0 := ready_done hr 0 _ rfl (by simp [Region.binds])
      simp at d0
      subst d0
      have d1 := ready_done hr 1 _ rfl (by simp [Region.binds])
      simp at d1
      subst d1
      have d2 := ready_done hr 2 _ rfl (by simp [Region.binds])
      simp at d2
      subst d2
      have d3 := ready_done hr 3 _ rfl (by simp [Region.binds])
      have d4 := ready_done hr 4 _ rfl (by simp [Region.binds])
      simp at d3 d4
      subst d3 d4
      have d5 := ready_done hr 5 _ rfl (by simp [Region.binds])
      simp at d5
      subst d5
      have d6 := ready_done hr 6 _ rfl (by simp [Region.binds])
      simp at d6
      subst d6
      have d7 := ready_done hr 7 _ rfl (by simp [Region.binds])
      simp at d7
      subst d7
      have d8 := ready_done hr 8 _ rfl (by simp [Region.binds])
      simp at d8
      subst d8
      exact (h8.out rfl).elim
    · clear hno
      refine wp_region_inv_at (by kernel_rfl) (fun A0 L A W => ∃ (b0 b1 b2 b3 b4 b5 b6 b7 b8 : Bool) (v8 v9 v10 v11 v12 v13 v14 v15 v16 : Value), L = #[b0, b1, b2, b3, b4, b5, b6, b7, b8] ∧ A = (((((((((A0.put (some 8) v8).put (some 9) v9).put (some 10) v10).put (some 11) v11).put (some 12) v12).put (some 13) v13).put (some 14) v14).put (some 15) v15).put (some 16) v16) ∧ (Below W2.heap.size W2 W) ∧ Hid (b0 = true → v8 = .int .i64 i) ∧ Hid (b1 = true → v9 = .bool false) ∧ Hid (b2 = true → v10 = .bool false) ∧ Hid (b3 = true → v11 = undef) ∧ Hid (b4 = true → v12 = undef) ∧ Hid (b5 = true → v13 = undef) ∧ Hid (b6 = true → v14 = undef) ∧ Hid (b7 = true → v15 = .bool false) ∧ Hid (b8 = true → False)) ?_ ?_ ?_
      · intro A0
        refine ⟨false, false, false, false, false, false, false, false, false, A0.tmps.getD 8 undef, A0.tmps.getD 9 undef, A0.tmps.getD 10 undef, A0.tmps.getD 11 undef, A0.tmps.getD 12 undef, A0.tmps.getD 13 undef, A0.tmps.getD 14 undef, A0.tmps.getD 15 undef, A0.tmps.getD 16 undef, rfl, (by simp only [put_self]), (Below.refl _ _).drew, Lib.hid (fun hf => by cases hf), Lib.hid (fun hf => by cases hf), Lib.hid (fun hf => by cases hf), Lib.hid (fun hf => by cases hf), Lib.hid (fun hf => by cases hf), Lib.hid (fun hf => by cases hf), Lib.hid (fun hf => by cases hf), Lib.hid (fun hf => by cases hf), Lib.hid (fun hf => by cases hf)⟩
      · intro L A W hI i hi o ho K' hK
        have hlt := (ready_left hi).1
        have hun := (ready_left hi).2
        have haf := ready_after hi ho
        clear hi
        obtain ⟨b0, b1, b2, b3, b4, b5, b6, b7, b8, v8, v9, v10, v11, v12, v13, v14, v15, v16, rfl, rfl, hB, h0, h1, h2, h3, h4, h5, h6, h7, h8⟩ := hI
        have hc : i = 0 ∨ i = 1 ∨ i = 2 ∨ i = 3 ∨ i = 4 ∨ i = 5 ∨ i = 6 ∨ i = 7 ∨ i = 8 := by
          simp at hlt
          omega
        have qq := HX.out W hB
        obtain ⟨q0, q1, q2⟩ := qq
        rcases hc with rfl | rfl | rfl | rfl | rfl | rfl | rfl | rfl | rfl
        all_goals (obtain rfl := Option.some.inj ho; clear ho; simp [Region.binds] at haf hun; (try simp only [List.getElem_toArray, List.getElem_cons_zero, List.getElem_cons_succ]); simp only [Act.put, List.setIfInBounds_toArray, List.set_cons_zero, List.set_cons_succ])
        · -- operation 0
          replace hK := Lib.hid hK
          subst hun
          go_simp
          exact hK.out _ _ ⟨true, b1, b2, b3, b4, b5, b6, b7, b8, .int .i64 i, v9, v10, v11, v12, v13, v14, v15, v16, rfl, (by simp only [Act.put, List.setIfInBounds_toArray, List.set_cons_zero, List.set_cons_succ]), hB, Lib.hid (fun _ => rfl), h1, h2, h3, h4, h5, h6, h7, h8⟩
        · -- operation 1
          replace hK := Lib.hid hK
          obtain rfl := h0.out (by simp only [haf])
          subst hun
          go_simp
          exact hK.out _ _ ⟨b0, true, b2, b3, b4, b5, b6, b7, b8, .int .i64 i, .bool false, v10, v11, v12, v13, v14, v15, v16, rfl, (by simp only [Act.put, List.setIfInBounds_toArray, List.set_cons_zero, List.set_cons_succ]), hB, Lib.hid (fun _ => rfl), Lib.hid (fun _ => rfl), h2, h3, h4, h5, h6, h7, h8⟩
        · -- operation 2
          replace hK := Lib.hid hK
          obtain rfl := h1.out (by simp only [haf])
          subst hun
          go_simp
          exact hK.out _ _ ⟨b0, b1, true, b3, b4, b5, b6, b7, b8, v8, .bool false, .bool false, v11, v12, v13, v14, v15, v16, rfl, (by simp only [Act.put, List.setIfInBounds_toArray, List.set_cons_zero, List.set_cons_succ]), hB, h0, Lib.hid (fun _ => rfl), Lib.hid (fun _ => rfl), h3, h4, h5, h6, h7, h8⟩
        · -- operation 3
          replace hK := Lib.hid hK
          obtain rfl := h2.out (by simp only [haf])
          subst hun
          go_simp
          exact hK.out _ _ ⟨b0, b1, b2, true, b4, b5, b6, b7, b8, v8, v9, .bool false, undef, v12, v13, v14, v15, v16, rfl, (by simp only [Act.put, List.setIfInBounds_toArray, List.set_cons_zero, List.set_cons_succ]), hB, h0, h1, Lib.hid (fun _ => rfl), Lib.hid (fun _ => rfl), h4, h5, h6, h7, h8⟩
        · -- operation 4
          replace hK := Lib.hid hK
          obtain rfl := h2.out (by simp only [haf])
          subst hun
          go_simp
          exact hK.out _ _ ⟨b0, b1, b2, b3, true, b5, b6, b7, b8, v8, v9, .bool false, v11, undef, v13, v14, v15, v16, rfl, (by simp only [Act.put, List.setIfInBounds_toArray, List.set_cons_zero, List.set_cons_succ]), hB, h0, h1, Lib.hid (fun _ => rfl), h3, Lib.hid (fun _ => rfl), h5, h6, h7, h8⟩
        · -- operation 5
          replace hK := Lib.hid hK
          obtain rfl := h2.out (by simp only [haf])
          subst hun
          go_simp
          exact hK.out _ _ ⟨b0, b1, b2, b3, b4, true, b6, b7, b8, v8, v9, .bool false, v11, v12, undef, v14, v15, v16, rfl, (by simp only [Act.put, List.setIfInBounds_toArray, List.set_cons_zero, List.set_cons_succ]), hB, h0, h1, Lib.hid (fun _ => rfl), h3, h4, Lib.hid (fun _ => rfl), h6, h7, h8⟩
        · -- operation 6
          replace hK := Lib.hid hK
          obtain rfl := h2.out (by simp only [haf])
          subst hun
          go_simp
          exact hK.out _ _ ⟨b0, b1, b2, b3, b4, b5, true, b7, b8, v8, v9, .bool false, v11, v12, v13, undef, v15, v16, rfl, (by simp only [Act.put, List.setIfInBounds_toArray, List.set_cons_zero, List.set_cons_succ]), hB, h0, h1, Lib.hid (fun _ => rfl), h3, h4, h5, Lib.hid (fun _ => rfl), h7, h8⟩
        · -- operation 7
          replace hK := Lib.hid hK
          obtain rfl := h2.out (by simp only [haf])
          subst hun
          go_simp
          exact hK.out _ _ ⟨b0, b1, b2, b3, b4, b5, b6, true, b8, v8, v9, .bool false, v11, v12, v13, v14, .bool false, v16, rfl, (by simp only [Act.put, List.setIfInBounds_toArray, List.set_cons_zero, List.set_cons_succ]), hB, h0, h1, Lib.hid (fun _ => rfl), h3, h4, h5, h6, Lib.hid (fun _ => rfl), h8⟩
        · -- operation 8
          replace hK := Lib.hid hK
          obtain rfl := h7.out (by simp only [haf])
          subst hun
          go_simp
          refine (CN.out W hB).mono ?_
          rintro e W' ⟨⟨T, p, rfl⟩, rfl⟩
          go_wp2
          exact ⟨rfl, ⟨T, p, rfl⟩, HBw.out.trans (hB.mono HBw.out.size)⟩
      intro L A W hI hr
      obtain ⟨b0, b1, b2, b3, b4, b5, b6, b7, b8, v8, v9, v10, v11, v12, v13, v14, v15, v16, rfl, rfl, hB, h0, h1, h2, h3, h4, h5, h6, h7, h8⟩ := hI
      have d0 := ready_done hr 0 _ rfl (by simp [Region.binds])
      simp at d0
      subst d0
      have d1 := ready_done hr 1 _ rfl (by simp [Region.binds])
      simp at d1
      subst d1
      have d2 := ready_done hr 2 _ rfl (by simp [Region.binds])
      simp at d2
      subst d2
      have d3 := ready_done hr 3 _ rfl (by simp [Region.binds])
      have d4 := ready_done hr 4 _ rfl (by simp [Region.binds])
      simp at d3 d4
      subst d3 d4
      have d5 := ready_done hr 5 _ rfl (by simp [Region.binds])
      simp at d5
      subst d5
      have d6 := ready_done hr 6 _ rfl (by simp [Region.binds])
      simp at d6
      subst d6
      have d7 := ready_done hr 7 _ rfl (by simp [Region.binds])
      simp at d7
      subst d7
      have d8 := ready_done hr 8 _ rfl (by simp [Region.binds])
      simp at d8
      subst d8
      exact (h8.out rfl).elim

theorem call_SpotAt1 : ∀ args (W : World), (callFunc 52 args).run Tryd.prog W = .ok (.enter 52 args) W := by
  intro args W
  first | (go_simp; done) | (simp [callFunc, go_sem]; done) | kernel_rfl

set_option maxHeartbeats 4000000 in
set_option maxRecDepth 100000 in
theorem impl_SpotAt (c n i : Int) (w : World) (hn : NoRes w) (hQ : QvP w) :
    Calls Tryd.prog 12 #[.int .i64 c, .int .i64 n, .int .i64 i] w (SaysSOk (saV c n i) (saOk c n i) w) := by
  obtain ⟨W0, hW0⟩ : ∃ W0, (((w.alloc (.cells #[.int .i64 c] 2)).alloc (.cells #[.int .i64 n] 2)).alloc (.cells #[.int .i64 i] 2)) = W0 := ⟨_, rfl⟩
  have hbA : Below w.heap.size w W0 := by rw [← hW0]; exact Joins.below_alloc3 w _ _ _
  have hs0 : W0.heap.size = w.heap.size + 1 + 1 + 1 := by rw [← hW0]; simp
  have h0 : W0.heap[w.heap.size]? = some (.cells #[.int .i64 c] 2 (0, 0)) := by
    rw [← hW0, Below.heap_alloc _ _ _ (by first | (simp; done) | (simp; omega)), Below.heap_alloc _ _ _ (by simp)]; exact heap_alloc_last w _
  have h1 : W0.heap[w.heap.size + 1]? = some (.cells #[.int .i64 n] 2 (0, 0)) := by
    rw [← hW0, Below.heap_alloc _ _ _ (by simp)]
    exact heap_alloc2_new _ _ _
  have h2 : W0.heap[w.heap.size + 1 + 1]? = some (.cells #[.int .i64 i] 2 (0, 0)) := by
    rw [← hW0]
    have := heap_alloc_last ((w.alloc (.cells #[.int .i64 c] 2)).alloc (.cells #[.int .i64 n] 2)) (.cells #[.int .i64 i] 2)
    simpa only [World.size_alloc] using this
  have HF : At3 W0 w.heap.size (w.heap.size + 1) (w.heap.size + 1 + 1) c n i := ⟨cell_of_one h0, cell_of_one h1, cell_of_one h2⟩
  have hB1 : Below w.heap.size w (W0.alloc (.cells #[.int .i64 0, .int .i64 0] 29)) := hbA.alloc hbA.size _
  have hb1 := Joins.below_alloc1 W0 (.cells #[.int .i64 0, .int .i64 0] 29)
  obtain ⟨W1, hW1⟩ : ∃ W1, W0.alloc (.cells #[.int .i64 0, .int .i64 0] 29) = W1 := ⟨_, rfl⟩
  have hR1 : Var2 W1 (w.heap.size + 1 + 1 + 1) (0, 0) := by
    show _ = _
    rw [← hW1, ← hs0]
    exact heap_alloc_last W0 _
  rw [hW1] at hB1 hb1
  have HF1 := HF.kept hb1
  have C : Hid (Calls Tryd.prog 51 #[.func (.func 52) #[] #[.pointer (some ⟨w.heap.size, 0, none⟩), .pointer (some ⟨w.heap.size + 1, 0, none⟩), .pointer (some ⟨w.heap.size + 1 + 1, 0, none⟩)]] W1 (SaysSOk (saV c n i) (saOk c n i) W1)) := by
    cases hok : saOk c n i with
    | true => exact attemptQ_yes 52 _ _ _ W1 call_SpotAt1 (fun W hb => spotWork_yes w.heap.size (w.heap.size + 1) (w.heap.size + 1 + 1) c n i W (HF1.kept hb) ((hQ.below hB1).below hb) hok)
    | false =>
      have e1 : saV c n i = (0, 0) := by unfold saV; rw [if_neg (by rw [hok]; decide)]
      rw [e1]
      exact attemptQ_no 52 _ W1 call_SpotAt1 (fun W hb => spotWork_no w.heap.size (w.heap.size + 1) (w.heap.size + 1 + 1) c n i W (HF1.kept hb) ((hn.below hB1).below hb) hok)
  obtain ⟨⟨r1, r2⟩, hr⟩ : ∃ r, saV c n i = r := ⟨_, rfl⟩
  obtain ⟨ok, hok⟩ : ∃ r, saOk c n i = r := ⟨_, rfl⟩
  rw [hr, hok] at C ⊢
  have HW0 := Lib.hid hW0
  have HW1 := Lib.hid hW1
  have HR1 := Lib.hid hR1
  have HB1 := Lib.hid hB1
  have hmf : ∀ (fn : Fn) (first cap : Array Value) (w : World), (Instr.makeFunc fn first cap).run Tryd.prog w = .ok (.func fn first cap) w := fun _ _ _ _ => rfl
  clear hQ hn hr hok hW0 hW1 hR1 hB1 hb1 h0 h1 h2 HF HF1 hbA hs0
  go_enter Tryd.func12, Tryd.ntmps12
  go_wp2_with fail
  rw [HW0.out, HW1.out]
  refine C.out.mono ?_
  rintro e w1 ⟨rfl, hb⟩
  have HRa := Lib.hid (HR1.out.below hb)
  have z0 := HRa.out.c0
  have z1 := HRa.out.c1
  have g0 := two_free HRa.out 0
  have g1 := two_free HRa.out 1
  have HB := Lib.hid (HB1.out.trans (hb.mono HB1.out.size))
  clear hb
  go_wp2_with fail
  exact bodyPost_ret (results_cell_tmp Tryd.results12 _ _ (w.heap.size + 1 + 1 + 1) 29 _ (0, 0) _ rfl (HRa.out.upd r1 r2) Tryd.underlying29 rfl infoSp1) rfl ⟨rfl, (HB.out.setCell (p := ⟨w.heap.size + 1 + 1 + 1, 0, none⟩) (by simp; omega) _).setCell (p := ⟨w.heap.size + 1 + 1 + 1, 1, none⟩) (by simp; omega) _⟩
end Go.Proofs.YtabkkpifkkgpeaaDoor
