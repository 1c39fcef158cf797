/- Contracts of single functions, and plain lemmas, on which the exact laws of this seat rest; each holds under the conditions that it states. -/
import Derived.Test.YthblhibkbcmbaaaDoorKE
import Derived.Test.YthblhibkbcmbaaaDoorCX1
import Derived.Test.YthblhibkbcmbaaaDoorKC
namespace Go.Proofs.YthblhibkbcmbaaaDoor
set_option linter.unusedVariables false
set_option linter.unusedSimpArgs false
open Go.RowKit
attribute [local go_sem] Oper.semAt_some

set_option maxHeartbeats 8000000 in
set_option maxRecDepth 100000 in
theorem pfWork_no3 (pc pn pv c n : Nat) (v : Value) (rs : List Int) (w : World) (hc : c < 4) (hn : n ≤ 4) (hQ : QvP w) (hNr : NoRes w) (hl : rs.length ≤ 1048576) (hv : SlN w v rs)
    (hpc : w.cell? ⟨pc, 0, none⟩ = some (.int .i64 (c : Int))) (hpn : w.cell? ⟨pn, 0, none⟩ = some (.int .i64 (n : Int))) (hpv : w.cell? ⟨pv, 0, none⟩ = some v)
    (hok : okK (2 ^ n * 2 ^ n) rs rs.length = true) (heq : decide (rnL (alF c n (gK (cvF c n) rs rs.length)) (2 ^ n * 2 ^ n) = rs) = false) :
    Calls Tryd.prog 48 #[.pointer (some ⟨pc, 0, none⟩), .pointer (some ⟨pn, 0, none⟩), .pointer (some ⟨pv, 0, none⟩)] w (fun e w' => (∃ T x, e = .panicked [{ v := .iface T x, recovered := false }]) ∧ Below w.heap.size w w') := by
  have hT2 : inB (c : Int) 0 3 = true ∧ inB (n : Int) 0 4 = true := by simp [inB]; omega
  have CT := Lib.hid (fun W => requiredTour_yes (c : Int) (n : Int) W hT2.1 hT2.2)
  have CP : Hid (∀ W, Below w.heap.size w W → Calls Tryd.prog 49 #[.agg #[.int .i64 (c : Int), .int .i64 (n : Int)], v] W (Painted W (2 ^ n) (gK (cvF c n) rs rs.length) true)) := fun W hb => by
    have := painted_any c n v rs W hc hn (hQ.below hb) (hNr.below hb) hl (hv.below hb)
    rwa [hok] at this
  have CR0 : Hid (∀ (gw : Nat → Nat), (∀ j, gw j < 4294967296) → (∀ y x, y < 2 ^ n → x < 2 ^ n → (gw y).testBit x = gK (cvF c n) rs rs.length y x) → ∀ W, Below w.heap.size w W → Calls Tryd.prog 39 #[.agg #[.int .i64 (c : Int), .int .i64 (n : Int)], .agg (mat (2 ^ n) (2 ^ n) gw)] W (fun e w' => ∃ v, e = .returned v ∧ OwnN w' W.heap.size v (rnL (alF c n (gK (cvF c n) rs rs.length)) (2 ^ n * 2 ^ n)) ∧ Below W.heap.size W w')) := fun gw h1 h2 W hb => by
    refine runs_any (mat (2 ^ n) (2 ^ n) gw) c n _ W hc hn (hQ.below hb) rfl fun x y W2 hx hy => ?_
    have := black_any (mat (2 ^ n) (2 ^ n) gw) (2 ^ n) (2 ^ n) gw x y W2 rfl (pow_le16 hn) (pow_le16 hn) h1
    rw [blackB_nat hx hy, h2 y x hy hx] at this
    exact this
  have HSl := Lib.hid (fun W (hb : Below w.heap.size w W) => SlN.below hv hb)
  have HNr : Hid (∀ W, Below w.heap.size w W → NoRes W) := fun W hb => hNr.below hb
  have CEq : Hid (∀ (u : Value) (xs : List Int) (W : World), xs.length ≤ 1048576 → SlN W u xs → Below w.heap.size w W → Calls Tryd.prog 50 #[u, v] W (SaysB (decide (xs = rs)) W)) := fun u xs W h1 hu hb => equalN_any u v xs rs W h1 hl hu (hv.below hb)
  have hRl := (rnL_len (alF c n (gK (cvF c n) rs rs.length)) (2 ^ n * 2 ^ n)).2
  have h256 : 2 ^ n * 2 ^ n ≤ 256 := Nat.mul_le_mul (pow_le16 hn) (pow_le16 hn)
  have HEqd := Lib.hid heq
  obtain ⟨R, hR⟩ : ∃ R, rnL (alF c n (gK (cvF c n) rs rs.length)) (2 ^ n * 2 ^ n) = R := ⟨_, rfl⟩
  rw [hR] at CR0 hRl HEqd
  obtain ⟨G, hG⟩ : ∃ G, gK (cvF c n) rs rs.length = G := ⟨_, rfl⟩
  rw [hG] at CP CR0
  obtain ⟨sd2, hsd⟩ : ∃ s, 2 ^ n = s := ⟨_, rfl⟩
  rw [hsd] at CP CR0 h256 hRl
  obtain ⟨ao, vcap, rfl⟩ := hv.form
  have hRL : R.length ≤ 1048576 := by omega
  replace CEq : Hid (∀ (u : Value) (W : World), SlN W u R → Below w.heap.size w W → Calls Tryd.prog 50 #[u, .slice ao rs.length vcap] W (SaysB false W)) := fun u W hu hb => by
    have := CEq.out u R W hRL hu hb
    rwa [HEqd.out] at this
  obtain ⟨m, hm⟩ : ∃ m, rs.length = m := ⟨_, rfl⟩
  rw [hm] at CEq CP hpv
  unfold Painted at CP
  have hb0 := Joins.below_alloc1 w (.cells #[.slice none 0 0] 29)
  have hp0 := heap_alloc_last w (.cells #[.slice none 0 0] 29)
  obtain ⟨W0, hW0⟩ : ∃ W0, w.alloc (.cells #[.slice none 0 0] 29) = W0 := ⟨_, rfl⟩
  rw [hW0] at hb0 hp0
  have cc := cell_kept hb0 hpc
  have cn := cell_kept hb0 hpn
  have HB0 := Lib.hid hb0
  have HP0 := Lib.hid hp0
  have HW := Lib.hid hW0
  have hs0 : W0.heap.size = w.heap.size + 1 := by rw [← hW0]; simp
  have Hs0 := Lib.hid hs0
  have HVc0 : Hid (∀ W, Below w.heap.size w W → W.cell? ⟨pv, 0, none⟩ = some (.slice ao m vcap)) := fun W hb => cell_kept hb hpv
  clear hT2 hb0 hp0 hW0 hs0 hpc hpn hpv hv hQ hNr hR hG hsd hm hc hn h256 hRl heq HEqd hok hl hRL
  go_enter Tryd.func48, Tryd.ntmps48
  go_upto_region 1 with fail
  rw [HW.out]
  go_wp2_with fail
  refine (CT.out _).mono ?_
  rintro e w1 ⟨rfl, hb1⟩
  have hbA := Joins.below_alloc1 w1 (.cells #[.int .i64 (c : Int), .int .i64 (n : Int)] 66)
  have hpA := heap_alloc_last w1 (.cells #[.int .i64 (c : Int), .int .i64 (n : Int)] 66)
  obtain ⟨W2, hW2⟩ : ∃ W2, w1.alloc (.cells #[.int .i64 (c : Int), .int .i64 (n : Int)] 66) = W2 := ⟨_, rfl⟩
  rw [hW2] at hbA hpA
  have HB2 : Hid (Below W0.heap.size W0 W2) := hb1.trans (hbA.mono hb1.size)
  have HBw2 : Hid (Below w.heap.size w W2) := HB0.out.trans (HB2.out.mono HB0.out.size)
  have c0 : W2.cell? ⟨w1.heap.size, 0, none⟩ = some (.int .i64 (c : Int)) := by rw [Joins.cell_of_block hpA 0]; rfl
  have c1 : W2.cell? ⟨w1.heap.size, 1, none⟩ = some (.int .i64 (n : Int)) := by rw [Joins.cell_of_block hpA 1]; rfl
  have cv := HVc0.out W2 HBw2.out
  have HTc2 : Hid (∀ W, Below W2.heap.size W2 W → W.cell? ⟨w1.heap.size, 0, none⟩ = some (.int .i64 (c : Int)) ∧ W.cell? ⟨w1.heap.size, 1, none⟩ = some (.int .i64 (n : Int))) := fun W hb => ⟨cell_kept hb c0, cell_kept hb c1⟩
  have HW2 := Lib.hid hW2
  clear hb1 hbA hpA hW2 cc cn
  go_upto_region 2 with fail
  rw [HW2.out]
  go_wp2_with fail
  refine (CP.out _ HBw2.out).mono ?_
  rintro e w3 ⟨hres, hb3⟩
  rcases hres with ⟨_, gw, rfl, hg1, hg2⟩ | ⟨h9, _⟩
  case inr => cases h9
  have CR := Lib.hid (CR0.out gw hg1 hg2)
  have HI : Hid ((Tryd.prog.info? 59).map (·.size) = some (mat sd2 sd2 gw).size) := infoM
  have HO : Hid ((mat sd2 sd2 gw).all (·.oneCell') = true) := mcells_one _ _ _
  have HZ : Hid (zeros.size = (mat sd2 sd2 gw).size) := rfl
  obtain ⟨M, hM⟩ : ∃ M, mat sd2 sd2 gw = M := ⟨_, rfl⟩
  rw [hM] at CR HI HO HZ ⊢
  have HB3 := Lib.hid hb3
  clear hg1 hg2 hM hb3 c0 c1 cv
  go_wp2_with (refine wpList_store_new w3 rfl 59 _ _ rfl M rfl rfl 59 zeros HI.out HZ.out HO.out ?_; refine Hid.out ?_)
  have hbm := Joins.below_alloc1 w3 (.cells M 59)
  have hpm := heap_alloc_last w3 (.cells M 59)
  have hbm2 : Below W2.heap.size W2 (w3.alloc (.cells M 59)) := HB3.out.trans (hbm.mono HB3.out.size)
  refine Lib.hid ?_
  obtain ⟨mb, hmb⟩ : ∃ z, w3.heap.size = z := ⟨_, rfl⟩
  obtain ⟨Wm, hWm⟩ : ∃ W, w3.alloc (.cells M 59) = W := ⟨_, rfl⟩
  rw [hWm, hmb] at hpm
  rw [hWm] at hbm2
  rw [hWm, hmb]
  have HBm : Hid (Below w.heap.size w Wm) := HBw2.out.trans (hbm2.mono HBw2.out.size)
  have HTc : Hid (∀ W, Below Wm.heap.size Wm W → W.cell? ⟨w1.heap.size, 0, none⟩ = some (.int .i64 (c : Int)) ∧ W.cell? ⟨w1.heap.size, 1, none⟩ = some (.int .i64 (n : Int))) := fun W hb => HTc2.out W (hbm2.trans (hb.mono hbm2.size))
  have HMx : Hid (∀ W, Below Wm.heap.size Wm W → W.heap[mb]? = some (.cells M 59 (0, 0))) := fun W hb => (hb.block mb (Array.getElem?_eq_some_iff.1 hpm).1).trans hpm
  have HVc : Hid (∀ W, Below Wm.heap.size Wm W → W.cell? ⟨pv, 0, none⟩ = some (.slice ao m vcap)) := fun W hb => HVc0.out W (HBm.out.trans (hb.mono HBm.out.size))
  have HRx : Hid (∀ W, Below Wm.heap.size Wm W → W.heap[w.heap.size]? = some (.cells #[.slice none 0 0] 29 (0, 0))) := fun W hb => by
    have h2 : Below W0.heap.size W0 W := HB2.out.trans ((hbm2.trans (hb.mono hbm2.size)).mono HB2.out.size)
    exact (h2.block _ (by rw [Hs0.out]; omega)).trans HP0.out
  clear hpm hbm hbm2 hmb hWm HTc2 HVc0 HB3 HBw2 HB2 HP0 HB0 Hs0 CP CT CR0 HW HW2
  go_upto_region 3 with fail
  refine wp_region_inv_at (by kernel_rfl) (fun A0 L A W => ∃ (b0 b1 b2 b3 b4 b5 : Bool) (v12 v13 v14 v15 v16 v17 : Value), L = #[b0, b1, b2, b3, b4, b5] ∧ A = ((((((A0.put (some 12) v12).put (some 13) v13).put (some 14) v14).put (some 15) v15).put (some 16) v16).put (some 17) v17) ∧ (Below Wm.heap.size Wm W) ∧ Hid (b0 = true → v12 = .agg #[.int .i64 (c : Int), .int .i64 (n : Int)]) ∧ Hid (b1 = true → v13 = .agg M) ∧ Hid (b2 = true → b4 = false → ∃ v', v14 = v' ∧ OwnN W w.heap.size v' R) ∧ Hid (b3 = true → v15 = .slice ao m vcap) ∧ Hid (b4 = true → v16 = .bool false) ∧ Hid (b5 = true → False)) ?_ ?_ ?_
  · intro A0
    refine ⟨false, false, false, false, false, false, A0.tmps.getD 12 undef, A0.tmps.getD 13 undef, A0.tmps.getD 14 undef, A0.tmps.getD 15 undef, A0.tmps.getD 16 undef, A0.tmps.getD 17 undef, rfl, (by simp only [put_self]), (Below.refl _ _).drew, Lib.hid (fun hf => by cases hf), Lib.hid (fun hf => by cases hf), Lib.hid (fun hf => by cases hf), Lib.hid (fun hf => by cases hf), Lib.hid (fun hf => by cases hf), Lib.hid (fun hf => by cases hf)⟩
  · intro L A W hI i hi o ho K' hK
    have hlt := (ready_left hi).1
    have hun := (ready_left hi).2
    have haf := ready_after hi ho
    clear hi
    obtain ⟨b0, b1, b2, b3, b4, b5, v12, v13, v14, v15, v16, v17, rfl, rfl, hB, h0, h1, h2, h3, h4, h5⟩ := hI
    have hc : i = 0 ∨ i = 1 ∨ i = 2 ∨ i = 3 ∨ i = 4 ∨ i = 5 := by
      simp at hlt
      omega
    have q0 := (HTc.out W hB).1
    have q1 := (HTc.out W hB).2
    have qM := HMx.out W hB
    have qv := HVc.out W hB
    rcases hc with rfl | rfl | rfl | rfl | rfl | rfl
    all_goals (obtain rfl := Option.some.inj ho; clear ho; simp [Region.binds] at haf hun; (try simp only [List.getElem_toArray, List.getElem_cons_zero, List.getElem_cons_succ]); simp only [Act.put, List.setIfInBounds_toArray, List.set_cons_zero, List.set_cons_succ])
    · -- operation 0
      replace hK := Lib.hid hK
      subst hun
      go_simp
      exact hK.out _ _ ⟨true, b1, b2, b3, b4, b5, .agg #[.int .i64 (c : Int), .int .i64 (n : Int)], v13, v14, v15, v16, v17, rfl, (by simp only [Act.put, List.setIfInBounds_toArray, List.set_cons_zero, List.set_cons_succ]), hB, Lib.hid (fun _ => rfl), h1, h2, h3, h4, h5⟩
    · -- operation 1
      replace hK := Lib.hid hK
      subst hun
      rw [if_pos (by simp [Region.wanted])]
      refine wp_load_row 59 _ rfl mb rfl 59 M (0, 0) _ qM Tryd.underlying59 rfl HI.out ?_
      exact hK.out _ _ ⟨b0, true, b2, b3, b4, b5, v12, .agg M, v14, v15, v16, v17, rfl, (by simp only [Act.put, List.setIfInBounds_toArray, List.set_cons_zero, List.set_cons_succ]), hB, h0, Lib.hid (fun _ => rfl), h2, h3, h4, h5⟩
    · -- operation 2
      replace hK := Lib.hid hK
      obtain rfl := (h0.out (by simp only [haf])).symm
      obtain rfl := (h1.out (by simp only [haf])).symm
      subst hun
      go_simp
      refine (CR.out W (HBm.out.trans (hB.mono HBm.out.size))).mono ?_
      rintro e W' ⟨v', rfl, fo0, hb⟩
      have fo := OwnN.mono fo0 (Nat.le_trans HBm.out.size hB.size)
      have hkept := fun kb (hk : kb < W.heap.size) => hb.block kb hk
      exact hK.out _ _ ⟨b0, b1, true, b3, b4, b5, .agg #[.int .i64 (c : Int), .int .i64 (n : Int)], .agg M, v', v15, v16, v17, rfl, (by simp only [Act.put, List.setIfInBounds_toArray, List.set_cons_zero, List.set_cons_succ]), hB.trans (hb.mono hB.size), Lib.hid (fun _ => rfl), Lib.hid (fun _ => rfl), Lib.hid (fun _ _ => ⟨v', rfl, fo⟩), h3, h4, h5⟩
    · -- operation 3
      replace hK := Lib.hid hK
      subst hun
      go_simp
      exact hK.out _ _ ⟨b0, b1, b2, true, b4, b5, v12, v13, v14, .slice ao m vcap, v16, v17, rfl, (by simp only [Act.put, List.setIfInBounds_toArray, List.set_cons_zero, List.set_cons_succ]), hB, h0, h1, h2, Lib.hid (fun _ => rfl), h4, h5⟩
    · -- operation 4
      replace hK := Lib.hid hK
      obtain ⟨v', rfl, fo⟩ := h2.out (by simp only [haf]) (by first | exact hun | simp only [haf])
      obtain rfl := (h3.out (by simp only [haf])).symm
      subst hun
      go_simp
      obtain ⟨v', hv'⟩ : ∃ z, z = v14 := ⟨_, rfl⟩
      subst hv'
      refine (CEq.out v' W (OwnN.sl fo) (HBm.out.trans (hB.mono HBm.out.size))).mono ?_
      rintro e W' ⟨rfl, hb⟩
      have hkept := fun kb (hk : kb < W.heap.size) => hb.block kb hk
      exact hK.out _ _ ⟨b0, b1, b2, b3, true, b5, v12, v13, v', .slice ao m vcap, .bool false, v17, rfl, (by simp only [Act.put, List.setIfInBounds_toArray, List.set_cons_zero, List.set_cons_succ]), hB.trans (hb.mono hB.size), h0, h1, Lib.hid (fun _ hu => by cases hu), Lib.hid (fun _ => rfl), Lib.hid (fun _ => rfl), h5⟩
    · -- operation 5
      replace hK := Lib.hid hK
      obtain rfl := (h4.out (by simp only [haf])).symm
      subst hun
      go_simp
      refine (require_no W (HNr.out W (HBm.out.trans (hB.mono HBm.out.size)))).mono ?_
      rintro e W' ⟨T, x, rfl, rfl⟩
      exact ⟨rfl, ⟨T, x, rfl⟩, (HBm.out.trans (hB.mono HBm.out.size))⟩
  intro L A W hI hr
  obtain ⟨b0, b1, b2, b3, b4, b5, v12, v13, v14, v15, v16, v17, rfl, rfl, hB, h0, h1, h2, h3, h4, h5⟩ := hI
  have d0 := ready_done hr 0 _ rfl (by simp [Region.binds])
  have d1 := ready_done hr 1 _ rfl (by simp [Region.binds])
  have d3 := ready_done hr 3 _ rfl (by simp [Region.binds])
  simp at d0 d1 d3
  subst d0 d1 d3
  have d2 := ready_done hr 2 _ rfl (by simp [Region.binds])
  simp at d2
  subst d2
  have d4 := ready_done hr 4 _ rfl (by simp [Region.binds])
  simp at d4
  subst d4
  have d5 := ready_done hr 5 _ rfl (by simp [Region.binds])
  simp at d5
  subst d5
  exact (h5.out rfl).elim

set_option maxHeartbeats 4000000 in
set_option maxRecDepth 100000 in
theorem pfWork_no2 (pc pn pv c n : Nat) (v : Value) (rs : List Int) (w : World) (hc : c < 4) (hn : n ≤ 4) (hQ : QvP w) (hNr : NoRes w) (hl : rs.length ≤ 1048576) (hv : SlN w v rs)
    (hpc : w.cell? ⟨pc, 0, none⟩ = some (.int .i64 (c : Int))) (hpn : w.cell? ⟨pn, 0, none⟩ = some (.int .i64 (n : Int))) (hpv : w.cell? ⟨pv, 0, none⟩ = some v)
    (hok : okK (2 ^ n * 2 ^ n) rs rs.length = false) :
    Calls Tryd.prog 48 #[.pointer (some ⟨pc, 0, none⟩), .pointer (some ⟨pn, 0, none⟩), .pointer (some ⟨pv, 0, none⟩)] w (fun e w' => (∃ T x, e = .panicked [{ v := .iface T x, recovered := false }]) ∧ Below w.heap.size w w') := by
  have hT2 : inB (c : Int) 0 3 = true ∧ inB (n : Int) 0 4 = true := by simp [inB]; omega
  have CT := Lib.hid (fun W => requiredTour_yes (c : Int) (n : Int) W hT2.1 hT2.2)
  have CP : Hid (∀ W, Below w.heap.size w W → Calls Tryd.prog 49 #[.agg #[.int .i64 (c : Int), .int .i64 (n : Int)], v] W (fun e w' => (∃ T x, e = .panicked [{ v := .iface T x, recovered := false }]) ∧ Below W.heap.size W w')) := fun W hb => by
    have := painted_any c n v rs W hc hn (hQ.below hb) (hNr.below hb) hl (hv.below hb)
    refine this.mono ?_
    rintro e w' ⟨⟨h, _⟩ | ⟨_, h⟩, hb2⟩
    · rw [hok] at h
      cases h
    · exact ⟨h, hb2⟩
  have hb0 := Joins.below_alloc1 w (.cells #[.slice none 0 0] 29)
  have cc := cell_kept hb0 hpc
  have cn := cell_kept hb0 hpn
  have HV0 := Lib.hid (fun W (hb : Below w.heap.size w W) => cell_kept hb hpv)
  have HB0 := Lib.hid hb0
  clear hT2 hb0 hv hQ hNr hc hn hok hl hpc hpn hpv
  go_enter Tryd.func48, Tryd.ntmps48
  go_wp2_with fail
  refine (CT.out _).mono ?_
  rintro e w1 ⟨rfl, hb1⟩
  have HB1 := Lib.hid ((HB0.out.trans (hb1.mono HB0.out.size)).alloc (Nat.le_trans HB0.out.size hb1.size) (.cells #[.int .i64 (c : Int), .int .i64 (n : Int)] 66))
  have cv := HV0.out _ HB1.out
  clear hb1 cc cn
  go_wp2_with fail
  refine (CP.out _ HB1.out).mono ?_
  rintro e w3 ⟨⟨T, x, rfl⟩, hb3⟩
  have HB3 := Lib.hid (HB1.out.trans (hb3.mono HB1.out.size))
  clear hb3
  go_wp2
  exact ⟨rfl, ⟨T, x, rfl⟩, HB3.out⟩

set_option maxHeartbeats 4000000 in
set_option maxRecDepth 100000 in
theorem pfWork_no1 (pc pn pv : Nat) (c n : Int) (w : World) (hNr : NoRes w)
    (hpc : w.cell? ⟨pc, 0, none⟩ = some (.int .i64 c)) (hpn : w.cell? ⟨pn, 0, none⟩ = some (.int .i64 n)) (hok : (inB c 0 3 && inB n 0 4) = false) :
    Calls Tryd.prog 48 #[.pointer (some ⟨pc, 0, none⟩), .pointer (some ⟨pn, 0, none⟩), .pointer (some ⟨pv, 0, none⟩)] w (fun e w' => (∃ T x, e = .panicked [{ v := .iface T x, recovered := false }]) ∧ Below w.heap.size w w') := by
  have hb0 := Joins.below_alloc1 w (.cells #[.slice none 0 0] 29)
  have CT := Lib.hid (requiredTour_no c n _ hok (hNr.below hb0))
  have cc := cell_kept hb0 hpc
  have cn := cell_kept hb0 hpn
  have HB0 := Lib.hid hb0
  clear hb0 hNr hok hpc hpn
  go_enter Tryd.func48, Tryd.ntmps48
  go_wp2_with fail
  refine CT.out.mono ?_
  rintro e w1 ⟨⟨T, x, rfl⟩, hb1⟩
  have HB1 := Lib.hid (HB0.out.trans (hb1.mono HB0.out.size))
  clear hb1
  go_wp2
  exact ⟨rfl, ⟨T, x, rfl⟩, HB1.out⟩

theorem call_PF1 : ∀ args (W : World), (callFunc 48 args).run Tryd.prog W = .ok (.enter 48 args) W := by
  intro args W
  first | (go_simp; done) | (simp [callFunc, go_sem]; done) | kernel_rfl

theorem pfWork_no (pc pn pv : Nat) (c n : Int) (v : Value) (rs : List Int) (w : World) (hQ : QvP w) (hNr : NoRes w) (hl : rs.length ≤ 1048576) (hv : SlN w v rs)
    (hpc : w.cell? ⟨pc, 0, none⟩ = some (.int .i64 c)) (hpn : w.cell? ⟨pn, 0, none⟩ = some (.int .i64 n)) (hpv : w.cell? ⟨pv, 0, none⟩ = some v) (hok : pfOk c n rs = false) :
    Calls Tryd.prog 48 #[.pointer (some ⟨pc, 0, none⟩), .pointer (some ⟨pn, 0, none⟩), .pointer (some ⟨pv, 0, none⟩)] w (fun e w' => (∃ T x, e = .panicked [{ v := .iface T x, recovered := false }]) ∧ Below w.heap.size w w') := by
  cases ht : (inB c 0 3 && inB n 0 4) with
  | false => exact pfWork_no1 pc pn pv c n w hNr hpc hpn ht
  | true =>
    obtain ⟨c', n', rfl, rfl, hc4, hn4⟩ := tour_nat ht
    unfold pfOk pfN pfG at hok
    rw [ht, Bool.true_and] at hok
    simp only [Int.toNat_natCast] at hok
    cases hk : okK (2 ^ n' * 2 ^ n') rs rs.length with
    | false => exact pfWork_no2 pc pn pv c' n' v rs w hc4 hn4 hQ hNr hl hv hpc hpn hpv hk
    | true =>
      rw [hk, Bool.true_and] at hok
      exact pfWork_no3 pc pn pv c' n' v rs w hc4 hn4 hQ hNr hl hv hpc hpn hpv hk hok
end Go.Proofs.YthblhibkbcmbaaaDoor

/- Contracts of single functions, and plain lemmas, on which the exact laws of this seat rest; each holds under the conditions that it states. -/
namespace Go.Proofs.YthblhibkbcmbaaaDoor
set_option linter.unusedVariables false
set_option linter.unusedSimpArgs false
open Go.RowKit
attribute [local go_sem] Oper.semAt_some

theorem pf_no {c n : Int} {rs : List Int} (h : pfOk c n rs = false) : pfV c n rs = [] := by unfold pfV; rw [if_neg (by rw [h]; decide)]

set_option maxHeartbeats 4000000 in
set_option maxRecDepth 100000 in
theorem spec_PF (c n : Int) (v : Value) (rs : List Int) (w : World) (hl : rs.length ≤ 1048576) (hv : SlN w v rs) :
    Calls Tryd.prog 15 #[.int .i64 c, .int .i64 n, v] w (SaysPic (pfV c n rs) (pfOk c n rs) w) := by
  have CA := Lib.hid (fun W => l08Ask_any c n W)
  have hp6 := heap_alloc_last w (.cells #[.slice none 0 0] 29)
  have hb6 := Joins.below_alloc1 w (.cells #[.slice none 0 0] 29)
  have hfr : (w.alloc (.cells #[.slice none 0 0] 29)).frozen? ⟨w.heap.size, 0, none⟩ = false := free_of_one hp6
  have hc2 : (w.alloc (.cells #[.slice none 0 0] 29)).cell? ⟨w.heap.size, 0, none⟩ = some (.slice none 0 0) := cell_of_one hp6
  have P0 := Lib.hid hp6
  have B0 := Lib.hid hb6
  cases ht : (inB c 0 3 && inB n 0 4) with
  | false =>
    rw [ht] at CA
    have e1 : pfOk c n rs = false := by unfold pfOk; rw [ht]; rfl
    rw [e1, pf_no e1]
    clear ht hp6 hb6 e1 hv
    go_enter Tryd.func15, Tryd.ntmps15
    go_wp2_with fail
    refine (CA.out _).mono ?_
    rintro e w1 ⟨rfl, rfl⟩
    go_wp2_with fail
    refine bodyPost_ret (v := .tuple #[.agg #[.slice none 0 0], .bool false]) (by simp [results, Tryd.results15, go_sem, cell_of_one P0.out]) rfl ⟨_, _, _, rfl, World.ownsRow_nil _ _ _ _, B0.out⟩
  | true =>
    by_cases h257 : rs.length ≤ 257
    · obtain ⟨c', n', rfl, rfl, hc4, hn4⟩ := tour_nat ht
      exact spec_Paint c' n' v rs w hc4 hn4 h257 hv
    · rw [ht] at CA
      have e1 : pfOk c n rs = false := by cases h : pfOk c n rs with | false => rfl | true => exact absurd (pf_len h) h257
      rw [e1, pf_no e1]
      obtain ⟨ao, cap, rfl⟩ := hv.form
      obtain ⟨m, hm⟩ : ∃ m, rs.length = m := ⟨_, rfl⟩
      rw [hm] at h257 hl ⊢
      have k257 : (257 : Int) < (m : Int) := by omega
      clear ht hp6 hb6 e1 hv hm
      go_enter Tryd.func15, Tryd.ntmps15
      go_wp2_with fail
      refine (CA.out _).mono ?_
      rintro e w1 ⟨rfl, rfl⟩
      go_wp2_with fail
      refine bodyPost_ret (v := .tuple #[.agg #[.slice none 0 0], .bool false]) (by simp [results, Tryd.results15, go_sem, cell_of_one P0.out]) rfl ⟨_, _, _, rfl, World.ownsRow_nil _ _ _ _, B0.out⟩

set_option maxHeartbeats 4000000 in
set_option maxRecDepth 100000 in
theorem impl_PF (c n : Int) (v : Value) (rs : List Int) (w : World) (hl : rs.length ≤ 1048576) (hv : SlN w v rs) (hn : NoRes w) (hQ : QvP w) :
    Calls Tryd.prog 17 #[.int .i64 c, .int .i64 n, v] w (SaysPic (pfV c n rs) (pfOk c n rs) w) := by
  obtain ⟨ao, vcap, rfl⟩ := hv.form
  have hmf : ∀ (fn : Fn) (first cap : Array Value) (w : World), (Instr.makeFunc fn first cap).run Tryd.prog w = .ok (.func fn first cap) w := fun _ _ _ _ => rfl
  obtain ⟨W1, hW1⟩ : ∃ W1, ((w.alloc (.cells #[.int .i64 c] 2)).alloc (.cells #[.int .i64 n] 2)) = W1 := ⟨_, rfl⟩
  have hs1 : W1.heap.size = w.heap.size + 1 + 1 := by rw [← hW1]; simp
  have hb1 : Below w.heap.size w W1 := by rw [← hW1]; exact Joins.below_alloc2 _ _ _
  have p0 : W1.heap[w.heap.size]? = some (.cells #[.int .i64 c] 2 (0, 0)) := by
    rw [← hW1, Below.heap_alloc _ _ _ (by simp)]; exact heap_alloc_last w _
  have p1 : W1.heap[w.heap.size + 1]? = some (.cells #[.int .i64 n] 2 (0, 0)) := by
    rw [← hW1]
    exact heap_alloc2_new _ _ _
  obtain ⟨W0, hW0⟩ : ∃ W0, ((W1.alloc (.cells #[.slice ao rs.length vcap] 26)).alloc (.cells #[.slice none 0 0] 29)) = W0 := ⟨_, rfl⟩
  have hb2 : Below W1.heap.size W1 W0 := by rw [← hW0]; exact Joins.below_alloc2 _ _ _
  have hs0 : W0.heap.size = w.heap.size + 1 + 1 + 1 + 1 := by rw [← hW0]; simp [hs1]
  have p2 : W0.heap[w.heap.size + 1 + 1]? = some (.cells #[.slice ao rs.length vcap] 26 (0, 0)) := by
    rw [← hW0, Below.heap_alloc _ _ _ (by simp [hs1]), ← hs1]; exact heap_alloc_last W1 _
  have p3 : W0.heap[w.heap.size + 1 + 1 + 1]? = some (.cells #[.slice none 0 0] 29 (0, 0)) := by
    rw [← hW0, ← hs1]
    exact heap_alloc2_new _ _ _
  have q0 := cell_kept hb2 (cell_of_one p0)
  have q1 := cell_kept hb2 (cell_of_one p1)
  have q2 := cell_of_one p2
  have hb0 : Below w.heap.size w W0 := hb1.trans (hb2.mono hb1.size)
  rw [← hW1] at hW0
  have HW := Lib.hid hW0
  have HB0 := Lib.hid hb0
  have KR : Hid (∀ W, Below W0.heap.size W0 W → W.heap[w.heap.size + 1 + 1 + 1]? = some (.cells #[.slice none 0 0] 29 (0, 0))) := fun W hb => (hb.block _ (by omega)).trans p3
  cases hok : pfOk c n rs with
  | false =>
    have e1 := Lib.hid (pf_no hok)
    have C := Lib.hid (attemptPi_no 48 #[.pointer (some ⟨w.heap.size, 0, none⟩), .pointer (some ⟨w.heap.size + 1, 0, none⟩), .pointer (some ⟨w.heap.size + 1 + 1, 0, none⟩)] W0 call_PF1 (fun W hb => pfWork_no w.heap.size (w.heap.size + 1) (w.heap.size + 1 + 1) c n _ rs W ((hQ.below hb0).below hb) ((hn.below hb0).below hb) hl ((hv.below hb0).below hb) (cell_kept hb q0) (cell_kept hb q1) (cell_kept hb q2) hok))
    rw [e1.out]
    clear hv hn hQ hok e1 p0 p1 p2 p3 q0 q1 q2 hb0 hb1 hb2 hW0 hW1 hs0 hs1
    go_enter Tryd.func17, Tryd.ntmps17
    go_upto_region 1 with fail
    rw [HW.out]
    go_wp2_with fail
    refine C.out.mono ?_
    rintro e w1 ⟨rfl, hb1⟩
    have hp1 := KR.out _ hb1
    have hfr : w1.frozen? ⟨w.heap.size + 1 + 1 + 1, 0, none⟩ = false := free_of_one hp1
    have hc2 : w1.cell? ⟨w.heap.size + 1 + 1 + 1, 0, none⟩ = some (.slice none 0 0) := cell_of_one hp1
    have B1 : Hid (Below w.heap.size w w1) := HB0.out.trans (hb1.mono HB0.out.size)
    have P1 := Lib.hid hp1
    clear hb1 hp1
    go_wp2_with fail
    refine bodyPost_ret (v := .tuple #[.agg #[.slice none 0 0], .bool false]) (by simp [results, Tryd.results17, go_sem, cell_of_one (one_setCell P1.out)]) rfl ⟨_, _, _, rfl, World.ownsRow_nil _ _ _ _, B1.out.setCell (by show w.heap.size ≤ w.heap.size + 1 + 1 + 1; omega) _⟩
  | true =>
    have hwork : ∀ W, Below W0.heap.size W0 W → Calls Tryd.prog 48 #[.pointer (some ⟨w.heap.size, 0, none⟩), .pointer (some ⟨w.heap.size + 1, 0, none⟩), .pointer (some ⟨w.heap.size + 1 + 1, 0, none⟩)] W (fun e w' => ∃ (ao : Option Addr) (k cap : Nat), e = .returned (.agg #[.slice ao k cap]) ∧ (∀ ao' k' cap', Value.agg #[.slice ao k cap] = .agg #[.slice ao' k' cap'] → OwnP w' W.heap.size (.slice ao' k' cap') (pfV c n rs)) ∧ Below W.heap.size W w') := fun W hb => by
      have ht : (inB c 0 3 && inB n 0 4) = true := by cases h : (inB c 0 3 && inB n 0 4) with | true => rfl | false => unfold pfOk at hok; rw [h] at hok; cases hok
      have hV : pfV c n rs = mkPic (2 ^ n.toNat) (2 ^ n.toNat) (pfG c n rs) := by unfold pfV; rw [if_pos hok]
      obtain ⟨c', n', rfl, rfl, hc4, hn4⟩ := tour_nat ht
      rw [hV]
      unfold pfOk pfN pfG at hok
      rw [ht, Bool.true_and, Bool.and_eq_true] at hok
      unfold pfG
      simp only [Int.toNat_natCast] at hok ⊢
      refine (pfWork_yes w.heap.size (w.heap.size + 1) (w.heap.size + 1 + 1) c' n' _ rs W hc4 hn4 ((hQ.below hb0).below hb) ((hn.below hb0).below hb) hl ((hv.below hb0).below hb) (cell_kept hb q0) (cell_kept hb q1) (cell_kept hb q2) hok.1 hok.2).mono ?_
      rintro e w' ⟨g, cap, rfl, hown, hb3⟩
      refine ⟨_, _, _, rfl, fun ao' k' cap' e => ?_, hb3⟩
      injection e with e
      have := congrArg (fun a : Array Value => a[0]?) e
      simp at this
      obtain ⟨e1, e2, e3⟩ := this
      subst e1 e2 e3
      exact hown
    have C := Lib.hid (attemptPi_yes 48 #[.pointer (some ⟨w.heap.size, 0, none⟩), .pointer (some ⟨w.heap.size + 1, 0, none⟩), .pointer (some ⟨w.heap.size + 1 + 1, 0, none⟩)] W0 (fun u W w' => ∀ ao' k' cap', u = .agg #[.slice ao' k' cap'] → OwnP w' W.heap.size (.slice ao' k' cap') (pfV c n rs)) call_PF1 hwork)
    obtain ⟨P, hP⟩ : ∃ P, pfV c n rs = P := ⟨_, rfl⟩
    rw [hP] at C ⊢
    clear hv hn hQ hok p0 p1 p2 p3 q0 q1 q2 hb1 hb2 hW0 hW1 hwork hP hs0 hs1
    go_enter Tryd.func17, Tryd.ntmps17
    go_upto_region 1 with fail
    rw [HW.out]
    go_wp2_with fail
    refine C.out.mono ?_
    rintro e w9 ⟨a5, n5, c5, w1, rfl, hQ, hb1, rfl, hr1, hr2⟩
    have hown := hQ _ _ _ rfl
    have hr3 : (w1.setCell ⟨W0.heap.size, 0, none⟩ (.slice a5 n5 c5)).heap[W0.heap.size + 1]? = some (.cells #[.bool false] 4 (0, 0)) := (Below.heap_setCell _ _ _ _ (by simp)).trans hr2
    have o1 := own_set (u := .slice a5 n5 c5) hown hr1 (by decide)
    have o2 := own_set (u := .bool true) o1 hr3 (by decide)
    have hbe : Below W0.heap.size W0 ((w1.setCell ⟨W0.heap.size, 0, none⟩ (.slice a5 n5 c5)).setCell ⟨W0.heap.size + 1, 0, none⟩ (.bool true)) := (hb1.setCell (by simp) _).setCell (by simp) _
    have hle := HB0.out.size
    have o3 : OwnP _ _ _ _ := OwnP.mono o2 (show w.heap.size ≤ _ by simp; omega)
    obtain ⟨W9, hW9⟩ : ∃ W9, ((w1.setCell ⟨W0.heap.size, 0, none⟩ (.slice a5 n5 c5)).setCell ⟨W0.heap.size + 1, 0, none⟩ (.bool true)) = W9 := ⟨_, rfl⟩
    rw [hW9] at hbe o3 ⊢
    have hp1 := KR.out _ hbe
    have hfr : W9.frozen? ⟨w.heap.size + 1 + 1 + 1, 0, none⟩ = false := free_of_one hp1
    have hc2 : W9.cell? ⟨w.heap.size + 1 + 1 + 1, 0, none⟩ = some (.slice none 0 0) := cell_of_one hp1
    have O2 := Lib.hid (own_set (u := .slice a5 n5 c5) o3 hp1 (by decide))
    have P5 := Lib.hid hp1
    have B5 := Lib.hid (HB0.out.trans (hbe.mono HB0.out.size))
    clear hQ hb1 hr1 hr2 hown hr3 o1 o2 hbe o3 hW9 hp1 hb0 hle
    go_wp2_with fail
    refine bodyPost_ret (v := .tuple #[.agg #[.slice a5 n5 c5], .bool true]) (by simp [results, Tryd.results17, go_sem, cell_of_one (one_setCell P5.out)]) rfl ⟨_, _, _, rfl, O2.out, B5.out.setCell (by show w.heap.size ≤ w.heap.size + 1 + 1 + 1; omega) _⟩
end Go.Proofs.YthblhibkbcmbaaaDoor
