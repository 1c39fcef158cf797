/- Contracts of single functions, and plain lemmas, on which the exact laws of this seat rest; each holds under the conditions that it states. -/
import Derived.Test.YthkmfiipmhlbjaaDoorGN
import Derived.Test.YthkmfiipmhlbjaaDoorGK
import Derived.Test.YthkmfiipmhlbjaaDoorAT2
import Derived.RegionDies
namespace Go.Proofs.YthkmfiipmhlbjaaDoor
set_option linter.unusedVariables false
set_option linter.unusedSimpArgs false
open Go.RowKit
attribute [local go_sem] Oper.semAt_some

theorem threshold_any {m : Int} (v : Value) (gs : List (List Int)) (lv : Int) (w : World) (V : VG m gs) (hv : SlG w v gs) :
    Calls Tryd.prog 51 #[v, .int .i64 lv] w (TookPic w (mkPic (rowF gs 0).length gs.length (thF gs lv))) := by
  have hmf : ∀ (fn : Fn) (first cap : Array Value) (w : World), (Instr.makeFunc fn first cap).run Tryd.prog w = .ok (.func fn first cap) w := fun _ _ _ _ => rfl
  have hb0 := Joins.below_alloc2 w (.cells #[.int .i64 lv] 2) (.cells #[.slice none 0 0] 33)
  have hr0 := heap_alloc2_new w (.cells #[.int .i64 lv] 2) (.cells #[.slice none 0 0] 33)
  have hl0 : ((w.alloc (.cells #[.int .i64 lv] 2)).alloc (.cells #[.slice none 0 0] 33)).heap[w.heap.size]? = some (.cells #[.int .i64 lv] 2 (0, 0)) := by
    rw [Below.heap_alloc _ _ _ (by simp)]; exact heap_alloc_last w _
  have C := Lib.hid (pixPic_any v gs lv w.heap.size ((w.alloc (.cells #[.int .i64 lv] 2)).alloc (.cells #[.slice none 0 0] 33)) V (hv.below hb0) (cell_of_one hl0))
  have hs0 : ((w.alloc (.cells #[.int .i64 lv] 2)).alloc (.cells #[.slice none 0 0] 33)).heap.size = w.heap.size + 2 := by simp
  have HR0 := Lib.hid hr0
  have HB0 := Lib.hid hb0
  obtain ⟨pic, hpic⟩ : ∃ p, mkPic (rowF gs 0).length gs.length (thF gs lv) = p := ⟨_, rfl⟩
  rw [hpic] at C ⊢
  unfold TookPic at C
  clear hr0 hl0 hb0 hv V hpic
  go_enter Tryd.func51, Tryd.ntmps51
  go_wp2_with fail
  refine C.out.mono ?_
  rintro e w7 ⟨g7, cap7, rfl, hown7, hb7⟩
  have hp7 := (hb7.block (w.heap.size + 1) (by rw [hs0]; omega)).trans HR0.out
  have hfr : w7.frozen? ⟨w.heap.size + 1, 0, none⟩ = false := free_of_one hp7
  have hc2 : w7.cell? ⟨w.heap.size + 1, 0, none⟩ = some (.slice none 0 0) := cell_of_one hp7
  have O7 := Lib.hid (own_set (u := .slice (some ⟨g7, 0, none⟩) pic.length cap7) hown7 hp7 (by decide))
  have P7 := Lib.hid (one_setCell (u := .slice (some ⟨g7, 0, none⟩) pic.length cap7) hp7)
  have B7 := Lib.hid (HB0.out.trans (hb7.mono (by rw [hs0]; omega)))
  clear hown7 hb7 hp7
  go_wp2_with fail
  exact bodyPost_ret (results_cell1 (p := 4) (ty := 33) Tryd.results51 _ _ (w.heap.size + 1) 33 #[.slice (some ⟨g7, 0, none⟩) pic.length cap7] (0, 0) _ rfl P7.out Tryd.underlying33 rfl (by kernel_rfl)) rfl ⟨g7, cap7, rfl, Joins.ownsRow_le O7.out (by rw [hs0]; omega), B7.out.setCell (p := ⟨w.heap.size + 1, 0, none⟩) (by show w.heap.size ≤ w.heap.size + 1; omega) _⟩

/-- the work done -/
def ThYes (gs : List (List Int)) (lv : Int) (w : World) (e : Ending) (w' : World) : Prop := TookPic w (mkPic (rowF gs 0).length gs.length (thF gs lv)) e w'
theorem inB100 {lv : Int} (h : inB lv 0 100 = true) : 0 ≤ lv ∧ lv ≤ 100 := by
  unfold inB at h
  simp only [Bool.and_eq_true, decide_eq_true_eq] at h
  exact h
theorem call_Threshold1 (args : Array Value) (W : World) : (callFunc 49 args).run Tryd.prog W = .ok (.enter 49 args) W := by simp [go_sem]

set_option maxHeartbeats 2000000 in
set_option maxRecDepth 100000 in
theorem thWork_yes (lb gb : Nat) (v : Value) (gs : List (List Int)) (lv : Int) (w : World) (hN : gs.length ≤ 1048576) (hf : ∀ i, i < gs.length → (rowF gs i).length ≤ 1048576) (hv : SlG w v gs) (hr : NoRes w) (hl : w.cell? ⟨lb, 0, none⟩ = some (.int .i64 lv)) (hg : w.cell? ⟨gb, 0, none⟩ = some v) (hok : vG 99 gs = true) (hin : inB lv 0 100 = true) :
    Calls Tryd.prog 49 #[.pointer (some ⟨lb, 0, none⟩), .pointer (some ⟨gb, 0, none⟩)] w (TookPic w (mkPic (rowF gs 0).length gs.length (thF gs lv))) := by
  obtain ⟨ao, cap, rfl, _⟩ := hv.open'
  obtain ⟨k1, k2⟩ := inB100 hin
  have V := vg_of hok
  have hb0 := Joins.below_alloc1 w (.cells #[.slice none 0 0] 33)
  have hr0 := heap_alloc_last w (.cells #[.slice none 0 0] 33)
  obtain ⟨W0, hW0⟩ : ∃ W0, w.alloc (.cells #[.slice none 0 0] 33) = W0 := ⟨_, rfl⟩
  rw [hW0] at hb0 hr0
  have HW0 := Lib.hid hW0
  have HB0 := Lib.hid hb0
  have hle := hb0.size
  have HC : Hid (∀ W, Below W0.heap.size W0 W → W.cell? ⟨gb, 0, none⟩ = some (.slice ao gs.length cap) ∧ W.cell? ⟨lb, 0, none⟩ = some (.int .i64 lv)) := fun W hb => ⟨cell_kept hb (cell_kept hb0 hg), cell_kept hb (cell_kept hb0 hl)⟩
  have KR : Hid (∀ W, Below W0.heap.size W0 W → W.heap[w.heap.size]? = some (.cells #[.slice none 0 0] 33 (0, 0))) := fun W hb => (hb.block _ (Array.getElem?_eq_some_iff.1 hr0).1).trans hr0
  have CG : Hid (∀ W, Below W0.heap.size W0 W → Calls Tryd.prog 44 #[.agg #[.slice ao gs.length cap]] W (fun e w' => e = .returned (.slice ao gs.length cap) ∧ Below W.heap.size W w')) := fun W hb => (requiredGrey_any (.slice ao gs.length cap) gs W hN hf ((hv.below hb0).below hb) ((hr.below hb0).below hb)).mono fun e w' h => by
    rcases h.1 with ⟨_, h1⟩ | ⟨h1, _⟩
    · exact ⟨h1, h.2⟩
    · rw [hok] at h1; cases h1
  have CT : Hid (∀ W, Below W0.heap.size W0 W → Calls Tryd.prog 51 #[.slice ao gs.length cap, .int .i64 lv] W (TookPic W (mkPic (rowF gs 0).length gs.length (thF gs lv)))) := fun W hb => threshold_any (.slice ao gs.length cap) gs lv W V ((hv.below hb0).below hb)
  obtain ⟨pic, hpic⟩ : ∃ p, mkPic (rowF gs 0).length gs.length (thF gs lv) = p := ⟨_, rfl⟩
  rw [hpic] at CT ⊢
  unfold TookPic at CT
  have c1 := (HC.out W0 (Below.refl _ _)).2
  clear hb0 hr0 hW0 hv hr hN hf hl hg hok hin V hpic
  go_enter Tryd.func49, Tryd.ntmps49
  go_upto_region 1 with fail
  rw [HW0.out]
  go_wp2_with fail
  refine (require_yes _).mono ?_
  rintro e w' ⟨rfl, hw'⟩
  obtain rfl := hw'.symm
  go_upto_region 2 with fail
  refine wp_region_inv_at (by kernel_rfl) (fun A0 L A W => ∃ (b0 b1 b2 b3 b4 : Bool) (v10 v11 v12 v13 : Value) (g5 c5 : Nat), L = #[b0, b1, b2, b3, b4] ∧ A = ((((A0.put (some 10) v10).put (some 11) v11).put (some 12) v12).put (some 13) v13) ∧ (∃ Wp, Below W0.heap.size W0 Wp ∧ Hid (b3 = true → OwnP Wp w.heap.size (.slice (some ⟨g5, 0, none⟩) pic.length c5) pic) ∧ W = (if b4 = true then Wp.setCell ⟨w.heap.size, 0, none⟩ (.slice (some ⟨g5, 0, none⟩) pic.length c5) else Wp)) ∧ Hid (b0 = true → v10 = .agg #[.slice ao gs.length cap]) ∧ Hid (b1 = true → v11 = .slice ao gs.length cap) ∧ Hid (b2 = true → v12 = .int .i64 lv) ∧ Hid (b3 = true → v13 = .agg #[.slice (some ⟨g5, 0, none⟩) pic.length c5]) ∧ Hid ((b0 = false → b4 = false) ∧ (b1 = false → b4 = false) ∧ (b2 = false → b4 = false) ∧ (b3 = false → b4 = false))) ?_ ?_ ?_
  · intro A0
    refine ⟨false, false, false, false, false, A0.tmps.getD 10 undef, A0.tmps.getD 11 undef, A0.tmps.getD 12 undef, A0.tmps.getD 13 undef, 0, 0, rfl, (by simp only [put_self]), ⟨_, (Below.refl _ _).drew, Lib.hid (fun hf => by cases hf), rfl⟩, Lib.hid (fun hf => by cases hf), Lib.hid (fun hf => by cases hf), Lib.hid (fun hf => by cases hf), Lib.hid (fun hf => by cases hf), Lib.hid ⟨fun _ => rfl, fun _ => rfl, fun _ => rfl, fun _ => rfl⟩⟩
  · intro L A W hI i hi o ho K' hK
    have hlt := (ready_left hi).1
    have hun := (ready_left hi).2
    have haf := ready_after hi ho
    clear hi
    obtain ⟨b0, b1, b2, b3, b4, v10, v11, v12, v13, g5, c5, rfl, rfl, hB, h0, h1, h2, h3, p⟩ := hI
    have hc : i = 0 ∨ i = 1 ∨ i = 2 ∨ i = 3 ∨ i = 4 := by
      simp at hlt
      omega
    rcases hc with rfl | rfl | rfl | rfl | rfl
    all_goals (obtain rfl := Option.some.inj ho; clear ho; simp [Region.binds] at haf hun; (try simp only [List.getElem_toArray, List.getElem_cons_zero, List.getElem_cons_succ]); simp only [Act.put, List.setIfInBounds_toArray, List.set_cons_zero, List.set_cons_succ])
    · -- operation 0
      replace hK := Lib.hid hK
      have hlast : b4 = false := p.out.1 hun
      subst hlast
      obtain ⟨Wp, hB, hgf, hWp⟩ := hB
      have hWq : W = Wp := by simpa using hWp
      clear hWp
      subst hWq
      have q0 := (HC.out W hB).1
      have q1 := (HC.out W hB).2
      have qR := KR.out W hB
      have qr0 := cell_of_one qR
      have qr1 := free_of_one qR
      subst hun
      go_simp
      exact hK.out _ _ ⟨true, b1, b2, b3, false, .agg #[.slice ao gs.length cap], v11, v12, v13, g5, c5, rfl, (by simp only [Act.put, List.setIfInBounds_toArray, List.set_cons_zero, List.set_cons_succ]), ⟨_, hB, hgf, rfl⟩, Lib.hid (fun _ => rfl), h1, h2, h3, Lib.hid ⟨(fun hf => by cases hf), (fun _ => rfl), (fun _ => rfl), (fun _ => rfl)⟩⟩
    · -- operation 1
      replace hK := Lib.hid hK
      have hlast : b4 = false := p.out.2.1 hun
      subst hlast
      obtain ⟨Wp, hB, hgf, hWp⟩ := hB
      have hWq : W = Wp := by simpa using hWp
      clear hWp
      subst hWq
      have q0 := (HC.out W hB).1
      have q1 := (HC.out W hB).2
      have qR := KR.out W hB
      have qr0 := cell_of_one qR
      have qr1 := free_of_one qR
      obtain rfl := h0.out (by simp only [haf])
      subst hun
      go_simp
      refine (CG.out W hB).mono ?_
      rintro e W' ⟨rfl, hb⟩
      have hkept := fun kb (hk : kb < W.heap.size) => hb.block kb hk
      exact hK.out _ _ ⟨b0, true, b2, b3, false, .agg #[.slice ao gs.length cap], .slice ao gs.length cap, v12, v13, g5, c5, rfl, (by simp only [Act.put, List.setIfInBounds_toArray, List.set_cons_zero, List.set_cons_succ]), ⟨_, hB.trans (hb.mono hB.size), Lib.hid (fun hx => OwnP.below (hgf.out hx) hb), rfl⟩, Lib.hid (fun _ => rfl), Lib.hid (fun _ => rfl), h2, h3, Lib.hid ⟨(fun _ => rfl), (fun hf => by cases hf), (fun _ => rfl), (fun _ => rfl)⟩⟩
    · -- operation 2
      replace hK := Lib.hid hK
      have hlast : b4 = false := p.out.2.2.1 hun
      subst hlast
      obtain ⟨Wp, hB, hgf, hWp⟩ := hB
      have hWq : W = Wp := by simpa using hWp
      clear hWp
      subst hWq
      have q0 := (HC.out W hB).1
      have q1 := (HC.out W hB).2
      have qR := KR.out W hB
      have qr0 := cell_of_one qR
      have qr1 := free_of_one qR
      subst hun
      go_simp
      exact hK.out _ _ ⟨b0, b1, true, b3, false, v10, v11, .int .i64 lv, v13, g5, c5, rfl, (by simp only [Act.put, List.setIfInBounds_toArray, List.set_cons_zero, List.set_cons_succ]), ⟨_, hB, hgf, rfl⟩, h0, h1, Lib.hid (fun _ => rfl), h3, Lib.hid ⟨(fun _ => rfl), (fun _ => rfl), (fun hf => by cases hf), (fun _ => rfl)⟩⟩
    · -- operation 3
      replace hK := Lib.hid hK
      have hlast : b4 = false := p.out.2.2.2 hun
      subst hlast
      obtain ⟨Wp, hB, hgf, hWp⟩ := hB
      have hWq : W = Wp := by simpa using hWp
      clear hWp
      subst hWq
      have q0 := (HC.out W hB).1
      have q1 := (HC.out W hB).2
      have qR := KR.out W hB
      have qr0 := cell_of_one qR
      have qr1 := free_of_one qR
      obtain rfl := h1.out (by simp only [haf])
      obtain rfl := h2.out (by simp only [haf])
      subst hun
      go_simp
      refine (CT.out W hB).mono ?_
      rintro e W' ⟨g5n, c5n, rfl, hown, hb⟩
      have hkept := fun kb (hk : kb < W.heap.size) => hb.block kb hk
      exact hK.out _ _ ⟨b0, b1, b2, true, false, v10, .slice ao gs.length cap, .int .i64 lv, .agg #[.slice (some ⟨g5n, 0, none⟩) pic.length c5n], g5n, c5n, rfl, (by simp only [Act.put, List.setIfInBounds_toArray, List.set_cons_zero, List.set_cons_succ]), ⟨_, hB.trans (hb.mono hB.size), Lib.hid (fun _ => OwnP.mono hown (Nat.le_trans hle hB.size)), rfl⟩, h0, Lib.hid (fun _ => rfl), Lib.hid (fun _ => rfl), Lib.hid (fun _ => rfl), Lib.hid ⟨(fun _ => rfl), (fun _ => rfl), (fun _ => rfl), (fun hf => by cases hf)⟩⟩
    · -- operation 4
      replace hK := Lib.hid hK
      subst hun
      obtain ⟨Wp, hB, hgf, hWp⟩ := hB
      have hWq : W = Wp := by simpa using hWp
      clear hWp
      subst hWq
      have q0 := (HC.out W hB).1
      have q1 := (HC.out W hB).2
      have qR := KR.out W hB
      have qr0 := cell_of_one qR
      have qr1 := free_of_one qR
      obtain rfl := h3.out (by simp only [haf])
      go_simp
      exact hK.out _ _ ⟨b0, b1, b2, b3, true, v10, v11, v12, .agg #[.slice (some ⟨g5, 0, none⟩) pic.length c5], g5, c5, rfl, (by simp only [Act.put, List.setIfInBounds_toArray, List.set_cons_zero, List.set_cons_succ]), ⟨_, hB, hgf, rfl⟩, h0, h1, h2, Lib.hid (fun _ => rfl), Lib.hid ⟨(fun hf => absurd (show false = true from hf.symm.trans (by simp only [haf])) (by decide)), (fun hf => absurd (show false = true from hf.symm.trans (by simp only [haf])) (by decide)), (fun hf => absurd (show false = true from hf.symm.trans (by simp only [haf])) (by decide)), (fun hf => absurd (show false = true from hf.symm.trans (by simp only [haf])) (by decide))⟩⟩
  intro L A W hI hr
  obtain ⟨b0, b1, b2, b3, b4, v10, v11, v12, v13, g5, c5, rfl, rfl, hB, h0, h1, h2, h3, p⟩ := hI
  have d0 := ready_done hr 0 _ rfl (by simp [Region.binds])
  have d2 := ready_done hr 2 _ rfl (by simp [Region.binds])
  simp at d0 d2
  subst d0 d2
  have d1 := ready_done hr 1 _ rfl (by simp [Region.binds])
  simp at d1
  subst d1
  have d3 := ready_done hr 3 _ rfl (by simp [Region.binds])
  simp at d3
  subst d3
  have d4 := ready_done hr 4 _ rfl (by simp [Region.binds])
  simp at d4
  subst d4
  obtain rfl := h0.out rfl
  obtain rfl := h1.out rfl
  obtain rfl := h2.out rfl
  obtain rfl := h3.out rfl
  obtain ⟨Wp, hB, hgf, hWp⟩ := hB
  have hgf := hgf.out rfl
  have hWq : W = Wp.setCell ⟨w.heap.size, 0, none⟩ (.slice (some ⟨g5, 0, none⟩) pic.length c5) := by simpa using hWp
  clear hWp
  subst hWq
  simp only [Act.put, List.setIfInBounds_toArray, List.set_cons_zero, List.set_cons_succ]
  clear hr h0 h1 h2 h3 p
  have P5 := KR.out Wp hB
  have B5 := Lib.hid (HB0.out.trans (hB.mono HB0.out.size))
  have O5 := Lib.hid (own_set (u := .slice (some ⟨g5, 0, none⟩) pic.length c5) hgf P5 (by decide))
  have P6 := Lib.hid (one_setCell (u := .slice (some ⟨g5, 0, none⟩) pic.length c5) P5)
  clear hgf hB P5
  go_wp2
  exact bodyPost_ret (results_cell1 (p := 2) (ty := 33) Tryd.results49 _ _ w.heap.size 33 #[.slice (some ⟨g5, 0, none⟩) pic.length c5] (0, 0) _ rfl P6.out Tryd.underlying33 rfl (by kernel_rfl)) rfl ⟨g5, c5, rfl, O5.out, B5.out.setCell (p := ⟨w.heap.size, 0, none⟩) (Nat.le_refl _) _⟩

set_option maxHeartbeats 2000000 in
set_option maxRecDepth 100000 in
theorem thWork_no (lb gb : Nat) (v : Value) (gs : List (List Int)) (lv : Int) (w : World) (hN : gs.length ≤ 1048576) (hf : ∀ i, i < gs.length → (rowF gs i).length ≤ 1048576) (hv : SlG w v gs) (hr : NoRes w) (hl : w.cell? ⟨lb, 0, none⟩ = some (.int .i64 lv)) (hg : w.cell? ⟨gb, 0, none⟩ = some v) (hok : thOk gs lv = false) :
    Calls Tryd.prog 49 #[.pointer (some ⟨lb, 0, none⟩), .pointer (some ⟨gb, 0, none⟩)] w (fun e w' => (∃ T x, e = .panicked [{ v := .iface T x, recovered := false }]) ∧ Below w.heap.size w w') := by
  have hb0 := Joins.below_alloc1 w (.cells #[.slice none 0 0] 33)
  obtain ⟨W0, hW0⟩ : ∃ W0, w.alloc (.cells #[.slice none 0 0] 33) = W0 := ⟨_, rfl⟩
  rw [hW0] at hb0
  have HW0 := Lib.hid hW0
  have HB0 := Lib.hid hb0
  have c1 := cell_kept hb0 hl
  have c2 := cell_kept hb0 hg
  cases hin : inB lv 0 100 with
  | false =>
    have CR := Lib.hid (require_no W0 (hr.below hb0))
    have hno : ¬ (0 ≤ lv ∧ lv ≤ 100) := fun h => by
      unfold inB at hin
      simp [h.1, h.2] at hin
    clear hb0 hv hr hf hl hg hW0 hok hin
    by_cases k1 : 0 ≤ lv
    · have k2 : ¬ lv ≤ 100 := fun h => hno ⟨k1, h⟩
      clear hno
      go_enter Tryd.func49, Tryd.ntmps49
      go_upto_region 1 with fail
      rw [HW0.out]
      go_wp2_with fail
      refine CR.out.mono ?_
      rintro e w' ⟨T, x, rfl, rfl⟩
      go_wp2
      exact ⟨rfl, ⟨T, x, rfl⟩, HB0.out⟩
    · clear hno
      go_enter Tryd.func49, Tryd.ntmps49
      go_upto_region 1 with fail
      rw [HW0.out]
      go_wp2_with fail
      refine CR.out.mono ?_
      rintro e w' ⟨T, x, rfl, rfl⟩
      go_wp2
      exact ⟨rfl, ⟨T, x, rfl⟩, HB0.out⟩
  | true =>
    obtain ⟨k1, k2⟩ := inB100 hin
    have hvn : vG 99 gs = false := by
      unfold thOk at hok
      rw [hin, Bool.and_true] at hok
      exact hok
    have CG : Hid (∀ W, Below W0.heap.size W0 W → Calls Tryd.prog 44 #[.agg #[v]] W (fun e w' => (∃ T x, e = .panicked [{ v := .iface T x, recovered := false }]) ∧ Below W.heap.size W w')) := fun W hb => (requiredGrey_any v gs W hN hf ((hv.below hb0).below hb) ((hr.below hb0).below hb)).mono fun e w' h => by
      rcases h.1 with ⟨h1, _⟩ | ⟨_, h1⟩
      · rw [hvn] at h1; cases h1
      · exact ⟨h1, h.2⟩
    clear hb0 hv hr hf hl hg hW0 hok hin hvn
    go_enter Tryd.func49, Tryd.ntmps49
    go_upto_region 1 with fail
    rw [HW0.out]
    go_wp2_with fail
    refine (require_yes _).mono ?_
    rintro e w' ⟨rfl, hw'⟩
    obtain rfl := hw'.symm
    go_upto_region 2 with fail
    go_region_dies
    all_goals (go_at_call 44; refine (CG.out _ (Below.refl _ _).drew).mono ?_; rintro e w4 ⟨⟨T, x, rfl⟩, hb4⟩; have HB4 := Lib.hid (HB0.out.trans (((Below.refl W0.heap.size W0).drew.trans (hb4.mono (Nat.le_refl _))).mono HB0.out.size)); clear hb4)
    all_goals go_wp2
    all_goals exact ⟨rfl, ⟨T, x, rfl⟩, HB4.out⟩

set_option maxHeartbeats 2000000 in
set_option maxRecDepth 100000 in
theorem impl_Threshold (v : Value) (gs : List (List Int)) (lv : Int) (w : World) (hN : gs.length ≤ 1048576) (hf : ∀ i, i < gs.length → (rowF gs i).length ≤ 1048576) (hv : SlG w v gs) (hr : NoRes w) :
    Calls Tryd.prog 17 #[.agg #[v], .int .i64 lv] w (SaysPic (thP gs lv) (thOk gs lv) w) := by
  have hmf : ∀ (fn : Fn) (first cap : Array Value) (w : World), (Instr.makeFunc fn first cap).run Tryd.prog w = .ok (.func fn first cap) w := fun _ _ _ _ => rfl
  obtain ⟨W0, hW0⟩ : ∃ W0, ((w.alloc (.cells #[v] 27)).alloc (.cells #[.int .i64 lv] 2)).alloc (.cells #[.slice none 0 0] 33) = W0 := ⟨_, rfl⟩
  have hs0 : W0.heap.size = w.heap.size + 1 + 1 + 1 := by rw [← hW0]; simp
  have hb0 : Below w.heap.size w W0 := by rw [← hW0]; exact Joins.below_alloc3 _ _ _ _
  have p0 : W0.heap[w.heap.size]? = some (.cells #[v] 27 (0, 0)) := by
    rw [← hW0, Below.heap_alloc _ _ _ (by first | (simp; done) | (simp; omega)), Below.heap_alloc _ _ _ (by first | (simp; done) | (simp; omega))]; exact heap_alloc_last w _
  have p1 : W0.heap[w.heap.size + 1]? = some (.cells #[.int .i64 lv] 2 (0, 0)) := by
    rw [← hW0, Below.heap_alloc _ _ _ (by first | (simp; done) | (simp; omega))]
    exact heap_alloc2_new _ _ _
  have p2 : W0.heap[w.heap.size + 1 + 1]? = some (.cells #[.slice none 0 0] 33 (0, 0)) := by
    rw [← hW0]
    have := heap_alloc_last ((w.alloc (.cells #[v] 27)).alloc (.cells #[.int .i64 lv] 2)) (.cells #[.slice none 0 0] 33)
    simpa only [World.size_alloc] using this
  have HW := Lib.hid hW0
  have HB0 := Lib.hid hb0
  have KR : Hid (∀ W, Below W0.heap.size W0 W → W.heap[w.heap.size + 1 + 1]? = some (.cells #[.slice none 0 0] 33 (0, 0))) := fun W hb => (hb.block _ (by omega)).trans p2
  cases hok : thOk gs lv with
  | false =>
    have e1 : Hid (thP gs lv = []) := thP_no hok
    have C := Lib.hid (attemptPi_no 49 #[.pointer (some ⟨w.heap.size + 1, 0, none⟩), .pointer (some ⟨w.heap.size, 0, none⟩)] W0 call_Threshold1 (fun W hb => thWork_no (w.heap.size + 1) w.heap.size v gs lv W hN hf ((hv.below hb0).below hb) ((hr.below hb0).below hb) (cell_kept hb (cell_of_one p1)) (cell_kept hb (cell_of_one p0)) hok))
    rw [e1.out]
    clear hv hr hf hok e1 p0 p1 p2 hb0 hW0 hs0
    go_enter Tryd.func17, Tryd.ntmps17
    go_upto_region 1 with fail
    rw [HW.out]
    go_wp2_with fail
    refine C.out.mono ?_
    rintro e w1 ⟨rfl, hb1⟩
    have hp1 := KR.out _ hb1
    have hfr : w1.frozen? ⟨w.heap.size + 1 + 1, 0, none⟩ = false := free_of_one hp1
    have hc2 : w1.cell? ⟨w.heap.size + 1 + 1, 0, none⟩ = some (.slice none 0 0) := cell_of_one hp1
    have B1 : Hid (Below w.heap.size w w1) := HB0.out.trans (hb1.mono HB0.out.size)
    have P1 := Lib.hid hp1
    clear hb1 hp1
    go_wp2_with fail
    refine bodyPost_ret (v := .tuple #[.agg #[.slice none 0 0], .bool false]) (by simp [results, Tryd.results17, go_sem, cell_of_one (one_setCell P1.out)]) rfl ⟨_, _, _, rfl, World.ownsRow_nil _ _ _ _, B1.out.setCell (by show w.heap.size ≤ w.heap.size + 1 + 1; omega) _⟩
  | true =>
    have e1 : Hid (thP gs lv = mkPic (rowF gs 0).length gs.length (thF gs lv)) := thP_yes hok
    have hok2 := hok
    unfold thOk at hok2
    rw [Bool.and_eq_true] at hok2
    have hle0 := hb0.size
    have C := Lib.hid (attemptPi_yes 49 #[.pointer (some ⟨w.heap.size + 1, 0, none⟩), .pointer (some ⟨w.heap.size, 0, none⟩)] W0 (fun u W w' => Below W0.heap.size W0 W → ∃ g c, u = .agg #[.slice (some ⟨g, 0, none⟩) (mkPic (rowF gs 0).length gs.length (thF gs lv)).length c] ∧ OwnP w' W.heap.size (.slice (some ⟨g, 0, none⟩) (mkPic (rowF gs 0).length gs.length (thF gs lv)).length c) (mkPic (rowF gs 0).length gs.length (thF gs lv))) call_Threshold1 (fun W hb => (thWork_yes (w.heap.size + 1) w.heap.size v gs lv W hN hf ((hv.below hb0).below hb) ((hr.below hb0).below hb) (cell_kept hb (cell_of_one p1)) (cell_kept hb (cell_of_one p0)) hok2.1 hok2.2).mono fun e w' ⟨g, c, h1, h2, h3⟩ => ⟨_, _, _, h1, fun _ => ⟨g, c, rfl, h2⟩, h3⟩))
    rw [e1.out]
    obtain ⟨pic, hpic⟩ : ∃ p, mkPic (rowF gs 0).length gs.length (thF gs lv) = p := ⟨_, rfl⟩
    rw [hpic] at C ⊢
    clear hv hr hf hok hok2 e1 p0 p1 p2 hb0 hW0 hpic
    go_enter Tryd.func17, Tryd.ntmps17
    go_upto_region 1 with fail
    rw [HW.out]
    go_wp2_with fail
    refine C.out.mono ?_
    rintro e w9 ⟨a5, n5, c5, w1, rfl, hQ, hb1, rfl, hr1, hr2⟩
    obtain ⟨g, c, hu, hown⟩ := hQ (Joins.below_alloc2 _ _ _)
    injection hu with hu
    have hu2 : Value.slice a5 n5 c5 = .slice (some ⟨g, 0, none⟩) pic.length c := by
      have := congrArg (fun a : Array Value => a[0]?) hu
      simpa using this
    injection hu2 with h1 h2 h3
    subst h1 h2 h3
    have hr3 : (w1.setCell ⟨W0.heap.size, 0, none⟩ (.slice (some ⟨g, 0, none⟩) pic.length c5)).heap[W0.heap.size + 1]? = some (.cells #[.bool false] 4 (0, 0)) := (Below.heap_setCell _ _ _ _ (by simp)).trans hr2
    have o1 := own_set (u := .slice (some ⟨g, 0, none⟩) pic.length c5) hown hr1 (by decide)
    have o2 := own_set (u := .bool true) o1 hr3 (by decide)
    have hbe : Below W0.heap.size W0 ((w1.setCell ⟨W0.heap.size, 0, none⟩ (.slice (some ⟨g, 0, none⟩) pic.length c5)).setCell ⟨W0.heap.size + 1, 0, none⟩ (.bool true)) := (hb1.setCell (by simp) _).setCell (by simp) _
    have o3 : OwnP _ _ _ _ := OwnP.mono o2 (show w.heap.size ≤ _ by simp; omega)
    obtain ⟨W9, hW9⟩ : ∃ W9, ((w1.setCell ⟨W0.heap.size, 0, none⟩ (.slice (some ⟨g, 0, none⟩) pic.length c5)).setCell ⟨W0.heap.size + 1, 0, none⟩ (.bool true)) = W9 := ⟨_, rfl⟩
    rw [hW9] at hbe o3 ⊢
    have hp1 := KR.out _ hbe
    have hfr : W9.frozen? ⟨w.heap.size + 1 + 1, 0, none⟩ = false := free_of_one hp1
    have hc2 : W9.cell? ⟨w.heap.size + 1 + 1, 0, none⟩ = some (.slice none 0 0) := cell_of_one hp1
    have O2 := Lib.hid (own_set (u := .slice (some ⟨g, 0, none⟩) pic.length c5) o3 hp1 (by decide))
    have P5 := Lib.hid hp1
    have B5 := Lib.hid (HB0.out.trans (hbe.mono HB0.out.size))
    clear hQ hb1 hr1 hr2 hown hu hr3 o1 o2 hbe o3 hW9 hp1
    go_wp2_with fail
    refine bodyPost_ret (v := .tuple #[.agg #[.slice (some ⟨g, 0, none⟩) pic.length c5], .bool true]) (by simp [results, Tryd.results17, go_sem, cell_of_one (one_setCell P5.out)]) rfl ⟨_, _, _, rfl, O2.out, B5.out.setCell (by show w.heap.size ≤ w.heap.size + 1 + 1; omega) _⟩
end Go.Proofs.YthkmfiipmhlbjaaDoor
