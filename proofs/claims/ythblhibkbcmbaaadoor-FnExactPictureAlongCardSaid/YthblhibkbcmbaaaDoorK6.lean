/- Contracts of single functions, and plain lemmas, on which the exact laws of this seat rest; each holds under the conditions that it states. -/
import Derived.Test.YthblhibkbcmbaaaDoorK4
import Derived.Test.YthblhibkbcmbaaaDoorPb
import Derived.Test.YthblhibkbcmbaaaDoorGA
import Derived.Test.YthblhibkbcmbaaaDoorI1
namespace Go.Proofs.YthblhibkbcmbaaaDoor
set_option linter.unusedVariables false
set_option linter.unusedSimpArgs false
open Go.RowKit
attribute [local go_sem] Oper.semAt_some

set_option maxHeartbeats 4000000 in
set_option maxRecDepth 100000 in
theorem paWork_no1 (pc pk : Nat) (v : Value) (ss : List ByteArray) (w : World) (hN : ss.length ≤ maxLen) (hz : ∀ s ∈ ss, s.size ≤ maxLen) (hv : Sl w v ss) (he : ErrLen w) (hn : NoRes w)
    (hpc : w.cell? ⟨pc, 0, none⟩ = some v) (hok : validB ss = false) :
    Calls Tryd.prog 33 #[.pointer (some ⟨pc, 0, none⟩), .pointer (some ⟨pk, 0, none⟩)] w (fun e w' => (∃ T x, e = .panicked [{ v := .iface T x, recovered := false }]) ∧ Below w.heap.size w w') := by
  have CM := Lib.hid (reqMat_no v ss w hN hz hv he hn hok)
  clear hN hz hv he hn hok
  go_enter Tryd.func33, Tryd.ntmps33
  go_wp2_with fail
  refine CM.out.mono ?_
  rintro e w1 ⟨⟨T, x, rfl⟩, hb⟩
  have B1 := Lib.hid hb
  clear hb
  go_wp2
  exact ⟨rfl, ⟨T, x, rfl⟩, B1.out⟩

set_option maxHeartbeats 4000000 in
set_option maxRecDepth 100000 in
theorem paWork_no2 (pc pk : Nat) (v : Value) (ss : List ByteArray) (w : World) (hN : ss.length ≤ maxLen) (hz : ∀ s ∈ ss, s.size ≤ maxLen) (hv : Sl w v ss) (he : ErrLen w) (hn : NoRes w)
    (hpc : w.cell? ⟨pc, 0, none⟩ = some v) (hok : validB ss = true) (hbad : (row0 ss).size ≠ ss.length ∨ odV ((row0 ss).size : Int) = -1) :
    Calls Tryd.prog 33 #[.pointer (some ⟨pc, 0, none⟩), .pointer (some ⟨pk, 0, none⟩)] w (fun e w' => (∃ T x, e = .panicked [{ v := .iface T x, recovered := false }]) ∧ Below w.heap.size w w') := by
  have V := vp_of hok
  have hw16 : 1 ≤ (row0 ss).size ∧ (row0 ss).size ≤ 16 := ⟨V.w1, V.w16⟩
  have hsz := matC_size ss
  have hone := matC_one ss
  have hMM := matC_yes hok
  have CM := Lib.hid (reqMat_yes v ss w hN hz hv he hok)
  have CTr := Lib.hid (fun W => isTree_any (row0 ss).size W hw16)
  have HNr : Hid (∀ W, Below w.heap.size w W → NoRes W) := fun W hb => hn.below hb
  have HBad := Lib.hid hbad
  obtain ⟨M, hM⟩ : ∃ M, matC ss = M := ⟨_, rfl⟩
  rw [hM] at CM hsz hone hMM
  have HI : Hid ((Tryd.prog.info? 59).map (·.size) = some M.size) := by show _ = _; rw [hsz]; exact infoM
  have HZ := Lib.hid (zeros_size.trans hsz.symm)
  have HO := Lib.hid hone
  obtain ⟨a, ha⟩ : ∃ a, (row0 ss).size = a := ⟨_, rfl⟩
  obtain ⟨b, hb⟩ : ∃ a, ss.length = a := ⟨_, rfl⟩
  rw [ha, hb] at hMM
  rw [ha] at hw16
  rw [ha] at CTr
  have HBad2 : Hid (a ≠ b ∨ odV (a : Int) = -1) := by show _ ∨ _; rw [← ha, ← hb]; exact hbad
  have HMM := Lib.hid hMM
  clear hok hM hsz hone hMM V hv he hN hz ha hb hbad HBad hn
  go_enter Tryd.func33, Tryd.ntmps33
  go_wp2_with fail
  refine CM.out.mono ?_
  rintro e w1 ⟨rfl, hb1⟩
  have HB1 := Lib.hid hb1
  clear hb1
  go_wp2_with (refine wpList_store_new w1 rfl 59 _ _ rfl M rfl rfl 59 zeros HI.out HZ.out HO.out ?_; refine Hid.out ?_)
  have hb1 := HB1.out
  have hm0 : (w1.alloc (.cells M 59)).heap[w1.heap.size]? = some (.cells M 59 (0, 0)) := heap_alloc_last w1 _
  have hBm : Below w.heap.size w (w1.alloc (.cells M 59)) := hb1.alloc hb1.size _
  have k0 : (w1.alloc (.cells M 59)).cell? ⟨w1.heap.size, 0, none⟩ = some (.int .i64 (a : Int)) := by rw [Joins.cell_of_block hm0 0, HMM.out]; rfl
  have k1 : (w1.alloc (.cells M 59)).cell? ⟨w1.heap.size, 1, none⟩ = some (.int .i64 (b : Int)) := by rw [Joins.cell_of_block hm0 1, HMM.out]; rfl
  have hlt : w1.heap.size < (w1.alloc (.cells M 59)).heap.size := by simp
  refine Lib.hid ?_
  obtain ⟨mb, hmb⟩ : ∃ z, w1.heap.size = z := ⟨_, rfl⟩
  obtain ⟨Wm, hWm⟩ : ∃ W, w1.alloc (.cells M 59) = W := ⟨_, rfl⟩
  rw [hWm, hmb] at k0 k1
  rw [hWm] at hBm
  rw [hWm, hmb]
  have HBm := Lib.hid hBm
  clear hm0 hBm hb1 hmb hWm hlt
  by_cases hab : a = b
  · subst hab
    have hod : odV (a : Int) = -1 := HBad2.out.resolve_left (fun h => h rfl)
    rw [hod, show decide ((0 : Int) ≤ -1) = false from by decide] at CTr
    clear hod HBad2
    go_wp2_with fail
    refine (CTr.out _).mono ?_
    rintro e Wm ⟨rfl, rfl⟩
    go_wp2_with fail
    refine (require_no _ (HNr.out _ HBm.out)).mono ?_
    rintro e Wm ⟨T, x, rfl, rfl⟩
    go_wp2
    exact ⟨rfl, ⟨T, x, rfl⟩, HBm.out⟩
  · have hne : ¬ ((a : Int) = (b : Int)) := by omega
    clear hab HBad2
    go_wp2_with fail
    refine (require_no _ (HNr.out _ HBm.out)).mono ?_
    rintro e Wm ⟨T, x, rfl, rfl⟩
    go_wp2
    exact ⟨rfl, ⟨T, x, rfl⟩, HBm.out⟩

set_option maxHeartbeats 8000000 in
set_option maxRecDepth 100000 in
theorem paWork_no3 (pc pk : Nat) (c : Int) (v : Value) (ss : List ByteArray) (w : World) (hN : ss.length ≤ maxLen) (hz : ∀ s ∈ ss, s.size ≤ maxLen) (hv : Sl w v ss) (he : ErrLen w) (hnr : NoRes w) (hT : Tab6 w)
    (hpc : w.cell? ⟨pc, 0, none⟩ = some v) (hpk : w.cell? ⟨pk, 0, none⟩ = some (.int .i64 c)) (hok : validB ss = true) (hwh : (row0 ss).size = ss.length) (n : Nat) (hn4 : n ≤ 4) (hod : odV ((row0 ss).size : Int) = (n : Int)) (ha2 : (row0 ss).size = 2 ^ n) (hc : inB c 0 3 = false) :
    Calls Tryd.prog 33 #[.pointer (some ⟨pc, 0, none⟩), .pointer (some ⟨pk, 0, none⟩)] w (fun e w' => (∃ T x, e = .panicked [{ v := .iface T x, recovered := false }]) ∧ Below w.heap.size w w') := by
  have V := vp_of hok
  have hw16 : 1 ≤ (row0 ss).size ∧ (row0 ss).size ≤ 16 := ⟨V.w1, V.w16⟩
  have hsz := matC_size ss
  have hone := matC_one ss
  have hMM := matC_yes hok
  have CM := Lib.hid (reqMat_yes v ss w hN hz hv he hok)
  have CTr := Lib.hid (fun W => isTree_any (row0 ss).size W hw16)
  rw [hod, decide_eq_true (show (0 : Int) ≤ (n : Int) by omega)] at CTr
  have CZ : Hid (∀ W, Below w.heap.size w W → Calls Tryd.prog 37 #[.int .u64 ((row0 ss).size : Int)] W (fun e w' => e = .returned (.int .i64 (n : Int)) ∧ W = w')) := fun W hb => by
    have := tz64 (row0 ss).size W (by omega) (hT.below hb)
    rw [show Lib.ctz 64 (row0 ss).size = n from by rw [ha2]; exact ctz_pow n hn4] at this
    exact this
  have CT := Lib.hid (fun W (hb : Below w.heap.size w W) => requiredTour_no c (n : Int) W (by rw [hc]; rfl) (hnr.below hb))
  obtain ⟨M, hM⟩ : ∃ M, matC ss = M := ⟨_, rfl⟩
  rw [hM] at CM hsz hone hMM
  have HI : Hid ((Tryd.prog.info? 59).map (·.size) = some M.size) := by show _ = _; rw [hsz]; exact infoM
  have HZ := Lib.hid (zeros_size.trans hsz.symm)
  have HO := Lib.hid hone
  obtain ⟨a, ha⟩ : ∃ a, (row0 ss).size = a := ⟨_, rfl⟩
  obtain ⟨b, hb⟩ : ∃ a, ss.length = a := ⟨_, rfl⟩
  rw [ha, hb] at hMM
  rw [ha] at hw16
  rw [ha] at CTr CZ
  have hab : a = b := by rw [← ha, ← hb]; exact hwh
  subst hab
  have HMM := Lib.hid hMM
  have kU : IntKind.u64.wrap (a : Int) = (a : Int) := IntWalk.u64_in _ (by omega)
  clear hod hT hc hok hwh hM hsz hone hMM V hv he hN hz ha hb hn4 hnr
  go_enter Tryd.func33, Tryd.ntmps33
  go_wp2_with fail
  refine CM.out.mono ?_
  rintro e w1 ⟨rfl, hb1⟩
  have HB1 := Lib.hid hb1
  clear hb1
  go_wp2_with (refine wpList_store_new w1 rfl 59 _ _ rfl M rfl rfl 59 zeros HI.out HZ.out HO.out ?_; refine Hid.out ?_)
  have hb1 := HB1.out
  have hm0 : (w1.alloc (.cells M 59)).heap[w1.heap.size]? = some (.cells M 59 (0, 0)) := heap_alloc_last w1 _
  have hBm : Below w.heap.size w (w1.alloc (.cells M 59)) := hb1.alloc hb1.size _
  have k0 : (w1.alloc (.cells M 59)).cell? ⟨w1.heap.size, 0, none⟩ = some (.int .i64 (a : Int)) := by rw [Joins.cell_of_block hm0 0, HMM.out]; rfl
  have k1 : (w1.alloc (.cells M 59)).cell? ⟨w1.heap.size, 1, none⟩ = some (.int .i64 (a : Int)) := by rw [Joins.cell_of_block hm0 1, HMM.out]; rfl
  have hlt : w1.heap.size < (w1.alloc (.cells M 59)).heap.size := by simp
  refine Lib.hid ?_
  obtain ⟨mb, hmb⟩ : ∃ z, w1.heap.size = z := ⟨_, rfl⟩
  obtain ⟨Wm, hWm⟩ : ∃ W, w1.alloc (.cells M 59) = W := ⟨_, rfl⟩
  rw [hWm, hmb] at hm0 k0 k1 hlt
  rw [hWm] at hBm
  rw [hWm, hmb]
  have HBm := Lib.hid hBm
  have HMx : Hid (∀ W, Below Wm.heap.size Wm W → W.heap[mb]? = some (.cells M 59 (0, 0))) := fun W hb => (hb.block mb hlt).trans hm0
  clear hm0 hBm hb1 hmb hWm hlt ha2
  go_wp2_with fail
  refine (CTr.out _).mono ?_
  rintro e Wm ⟨rfl, rfl⟩
  go_wp2_with fail
  refine (require_yes _).mono ?_
  rintro e Wm ⟨rfl, rfl⟩
  go_wp2_with fail
  refine (CZ.out _ HBm.out).mono ?_
  rintro e Wm ⟨rfl, rfl⟩
  clear k0 k1
  go_upto_region 4 with fail
  refine wp_region_inv_at (by kernel_rfl) (fun A0 L A W => ∃ (b0 b1 b2 b3 b4 b5 : Bool) (v22 v23 v24 v25 v26 v2 : Value), L = #[b0, b1, b2, b3, b4, b5] ∧ A = ((((((A0.put (some 22) v22).put (some 23) v23).put (some 24) v24).put (some 25) v25).put (some 26) v26).put (some 2) v2) ∧ (Below Wm.heap.size Wm W) ∧ Hid (b0 = true → v22 = .int .i64 c) ∧ Hid (b1 = true → v23 = .int .i64 (n : Int)) ∧ Hid (b2 = true → False) ∧ Hid (b3 = true → v25 = .agg M) ∧ Hid (b4 = true → v26 = .agg M) ∧ Hid (b5 = true → v2 = .agg M)) ?_ ?_ ?_
  · intro A0
    refine ⟨false, false, false, false, false, false, A0.tmps.getD 22 undef, A0.tmps.getD 23 undef, A0.tmps.getD 24 undef, A0.tmps.getD 25 undef, A0.tmps.getD 26 undef, A0.tmps.getD 2 undef, rfl, (by simp only [put_self]), (Below.refl _ _).drew, Lib.hid (fun hf => by cases hf), Lib.hid (fun hf => by cases hf), Lib.hid (fun hf => by cases hf), Lib.hid (fun hf => by cases hf), Lib.hid (fun hf => by cases hf), Lib.hid (fun hf => by cases hf)⟩
  · intro L A W hI i hi o ho K' hK
    have hlt := (ready_left hi).1
    have hun := (ready_left hi).2
    have haf := ready_after hi ho
    clear hi
    obtain ⟨b0, b1, b2, b3, b4, b5, v22, v23, v24, v25, v26, v2, rfl, rfl, hB, h0, h1, h2, h3, h4, h5⟩ := hI
    have hc : i = 0 ∨ i = 1 ∨ i = 2 ∨ i = 3 ∨ i = 4 ∨ i = 5 := by
      simp at hlt
      omega
    have qk := cell_kept (HBm.out.trans (hB.mono HBm.out.size)) hpk
    have qM := HMx.out W hB
    rcases hc with rfl | rfl | rfl | rfl | rfl | rfl
    all_goals (obtain rfl := Option.some.inj ho; clear ho; simp [Region.binds] at haf hun; (try simp only [List.getElem_toArray, List.getElem_cons_zero, List.getElem_cons_succ]); simp only [Act.put, List.setIfInBounds_toArray, List.set_cons_zero, List.set_cons_succ])
    · -- operation 0
      replace hK := Lib.hid hK
      subst hun
      go_simp
      exact hK.out _ _ ⟨true, b1, b2, b3, b4, b5, .int .i64 c, v23, v24, v25, v26, v2, rfl, (by simp only [Act.put, List.setIfInBounds_toArray, List.set_cons_zero, List.set_cons_succ]), hB, Lib.hid (fun _ => rfl), h1, h2, h3, h4, h5⟩
    · -- operation 1
      replace hK := Lib.hid hK
      subst hun
      go_simp
      exact hK.out _ _ ⟨b0, true, b2, b3, b4, b5, v22, .int .i64 (n : Int), v24, v25, v26, v2, rfl, (by simp only [Act.put, List.setIfInBounds_toArray, List.set_cons_zero, List.set_cons_succ]), hB, h0, Lib.hid (fun _ => rfl), h2, h3, h4, h5⟩
    · -- operation 2
      replace hK := Lib.hid hK
      obtain rfl := (h0.out (by simp only [haf])).symm
      obtain rfl := (h1.out (by simp only [haf])).symm
      subst hun
      go_simp
      refine (CT.out W (HBm.out.trans (hB.mono HBm.out.size))).mono ?_
      rintro e W' ⟨⟨T, x, rfl⟩, hb⟩
      exact ⟨rfl, ⟨T, x, rfl⟩, (HBm.out.trans (hB.mono HBm.out.size)).trans (hb.mono (Nat.le_trans HBm.out.size hB.size))⟩
    · -- operation 3
      replace hK := Lib.hid hK
      subst hun
      rw [if_pos (by simp [Region.wanted])]
      refine wp_load_row 59 _ rfl mb rfl 59 M (0, 0) _ qM Tryd.underlying59 rfl HI.out ?_
      exact hK.out _ _ ⟨b0, b1, b2, true, b4, b5, v22, v23, v24, .agg M, v26, v2, rfl, (by simp only [Act.put, List.setIfInBounds_toArray, List.set_cons_zero, List.set_cons_succ]), hB, h0, h1, h2, Lib.hid (fun _ => rfl), h4, h5⟩
    · -- operation 4
      replace hK := Lib.hid hK
      exact (h2.out (by simp only [haf])).elim
    · -- operation 5
      replace hK := Lib.hid hK
      obtain rfl := (h4.out (by simp only [haf])).symm
      subst hun
      go_simp
      exact hK.out _ _ ⟨b0, b1, b2, b3, b4, true, v22, v23, v24, v25, .agg M, .agg M, rfl, (by simp only [Act.put, List.setIfInBounds_toArray, List.set_cons_zero, List.set_cons_succ]), hB, h0, h1, h2, h3, Lib.hid (fun _ => rfl), Lib.hid (fun _ => rfl)⟩
  intro L A W hI hr
  obtain ⟨b0, b1, b2, b3, b4, b5, v22, v23, v24, v25, v26, v2, rfl, rfl, hB, h0, h1, h2, h3, h4, h5⟩ := hI
  have d0 := ready_done hr 0 _ rfl (by simp [Region.binds])
  have d1 := ready_done hr 1 _ rfl (by simp [Region.binds])
  have d3 := ready_done hr 3 _ rfl (by simp [Region.binds])
  simp at d0 d1 d3
  subst d0 d1 d3
  have d2 := ready_done hr 2 _ rfl (by simp [Region.binds])
  simp at d2
  subst d2
  exact (h2.out rfl).elim

theorem call_PA1 : ∀ args (W : World), (callFunc 33 args).run Tryd.prog W = .ok (.enter 33 args) W := by
  intro args W
  first | (go_simp; done) | (simp [callFunc, go_sem]; done) | kernel_rfl

theorem paWork_no (pc pk : Nat) (c : Int) (v : Value) (ss : List ByteArray) (w : World) (hN : ss.length ≤ maxLen) (hz : ∀ s ∈ ss, s.size ≤ maxLen) (hv : Sl w v ss) (he : ErrLen w) (hnr : NoRes w) (hT : Tab6 w)
    (hpc : w.cell? ⟨pc, 0, none⟩ = some v) (hpk : w.cell? ⟨pk, 0, none⟩ = some (.int .i64 c)) (hok : paOk ss c = false) :
    Calls Tryd.prog 33 #[.pointer (some ⟨pc, 0, none⟩), .pointer (some ⟨pk, 0, none⟩)] w (fun e w' => (∃ T x, e = .panicked [{ v := .iface T x, recovered := false }]) ∧ Below w.heap.size w w') := by
  cases hv1 : validB ss with
  | false => exact paWork_no1 pc pk v ss w hN hz hv he hnr hpc hv1
  | true =>
    by_cases hwh : (row0 ss).size = ss.length
    · rcases od_cases (row0 ss).size with h | ⟨n, hn4, hod, ha2⟩
      · exact paWork_no2 pc pk v ss w hN hz hv he hnr hpc hv1 (Or.inr h)
      · have h2 := (pa_parts (c := c) hv1 hwh n hod).1
        exact paWork_no3 pc pk c v ss w hN hz hv he hnr hT hpc hpk hv1 hwh n hn4 hod ha2 (h2.symm.trans hok)
    · exact paWork_no2 pc pk v ss w hN hz hv he hnr hpc hv1 (Or.inl hwh)

set_option maxHeartbeats 4000000 in
set_option maxRecDepth 100000 in
theorem impl_PicAlong (c : Int) (v : Value) (ss : List ByteArray) (w : World) (hN : ss.length ≤ maxLen) (hz : ∀ s ∈ ss, s.size ≤ maxLen) (hv : Sl w v ss) (he : ErrLen w) (hn : NoRes w) (hQ : QvP w) (hT : Tab6 w) :
    Calls Tryd.prog 9 #[.agg #[v], .int .i64 c] w (SaysN (paV ss c) (paOk ss c) w) := by
  obtain ⟨W0, hW0⟩ : ∃ W0, ((w.alloc (.cells #[v] 29)).alloc (.cells #[.int .i64 c] 2)) = W0 := ⟨_, rfl⟩
  have b0 : Below w.heap.size w W0 := by rw [← hW0]; exact Joins.below_alloc2 w _ _
  have h0 : W0.heap[w.heap.size]? = some (.cells #[v] 29 (0, 0)) := by
    rw [← hW0, Below.heap_alloc _ _ _ (by simp)]; exact heap_alloc_last w _
  have h1 : W0.heap[w.heap.size + 1]? = some (.cells #[.int .i64 c] 2 (0, 0)) := by
    rw [← hW0]
    exact heap_alloc2_new _ _ _
  have hmf : ∀ (fn : Fn) (first cap : Array Value) (w : World), (Instr.makeFunc fn first cap).run Tryd.prog w = .ok (.func fn first cap) w := fun _ _ _ _ => rfl
  have B0 := Lib.hid b0
  have HW := Lib.hid hW0
  cases hok : paOk ss c with
  | true =>
    have hwork : ∀ W, Below W0.heap.size W0 W → Calls Tryd.prog 33 #[.pointer (some ⟨w.heap.size, 0, none⟩), .pointer (some ⟨w.heap.size + 1, 0, none⟩)] W (fun e w' => ∃ (ao : Option Addr) (n cap : Nat), e = .returned (.slice ao n cap) ∧ OwnN w' W.heap.size (.slice ao n cap) (paV ss c) ∧ Below W.heap.size W w') := fun W hb => by
      have hbW := b0.trans (hb.mono b0.size)
      have hv1 : validB ss = true := by cases h : validB ss with | true => rfl | false => unfold paOk at hok; rw [h] at hok; cases hok
      have hwh : (row0 ss).size = ss.length := by
        unfold paOk at hok
        simp at hok
        exact hok.2.1
      rcases od_cases (row0 ss).size with h | ⟨n, hn4, hod, ha2⟩
      · unfold paOk at hok
        rw [h] at hok
        simp at hok
      · have h2 := (pa_parts (c := c) hv1 hwh n hod).1
        refine (paWork_yes w.heap.size (w.heap.size + 1) c v ss W hN hz (hv.below hbW) (he.below hbW) (hQ.below hbW) (hT.below hbW) (cell_kept hb (cell_of_one h0)) (cell_kept hb (cell_of_one h1)) hv1 hwh n hn4 hod ha2 (h2.symm.trans hok)).mono ?_
        rintro e w' ⟨u, rfl, hown, hb2⟩
        rcases Joins.ownsRow_forms hown with ⟨rfl, _⟩ | ⟨g, cap, rfl⟩
        · exact ⟨_, _, _, rfl, hown, hb2⟩
        · exact ⟨_, _, _, rfl, hown, hb2⟩
    have C := Lib.hid (attemptNN_yes 33 #[.pointer (some ⟨w.heap.size, 0, none⟩), .pointer (some ⟨w.heap.size + 1, 0, none⟩)] W0 (fun u W w' => OwnN w' W.heap.size u (paV ss c)) call_PA1 hwork)
    obtain ⟨R, hR⟩ : ∃ R, paV ss c = R := ⟨_, rfl⟩
    rw [hR] at C ⊢
    clear hn hQ hT he hok b0 h0 h1 hW0 hwork hR hv hN hz
    go_enter Tryd.func9, Tryd.ntmps9
    go_upto_region 1 with fail
    rw [HW.out]
    go_wp2_with fail
    refine C.out.mono ?_
    rintro e w1 ⟨ao, n, cap, w2, rfl, hQ, hb, rfl, r1, r2⟩
    have hs := B0.out.size
    have hO1 := own_set (u := .slice ao n cap) (OwnN.mono hQ (show w.heap.size ≤ _ by simp only [World.size_alloc]; omega)) r1 (by decide)
    have r3 : (w2.setCell ⟨W0.heap.size, 0, none⟩ (.slice ao n cap)).heap[W0.heap.size + 1]? = some (.cells #[.bool false] 4 (0, 0)) := (Below.heap_setCell _ _ _ _ (by simp)).trans r2
    have HO := Lib.hid (own_set (u := .bool true) hO1 r3 (by decide))
    have HB := Lib.hid (((B0.out.trans (hb.mono hs)).setCell (p := ⟨W0.heap.size, 0, none⟩) hs (.slice ao n cap)).setCell (p := ⟨W0.heap.size + 1, 0, none⟩) (by show w.heap.size ≤ W0.heap.size + 1; omega) (.bool true))
    clear hQ hb r1 r2 r3 hO1
    go_wp2_with fail
    go_ret2
    exact ⟨_, rfl, HO.out, HB.out⟩
  | false =>
    have C := Lib.hid (attemptNN_no 33 #[.pointer (some ⟨w.heap.size, 0, none⟩), .pointer (some ⟨w.heap.size + 1, 0, none⟩)] W0 call_PA1 (fun W hb => paWork_no w.heap.size (w.heap.size + 1) c v ss W hN hz (hv.below (b0.trans (hb.mono b0.size))) (he.below (b0.trans (hb.mono b0.size))) (hn.below (b0.trans (hb.mono b0.size))) (hT.below (b0.trans (hb.mono b0.size))) (cell_kept hb (cell_of_one h0)) (cell_kept hb (cell_of_one h1)) hok))
    have HV : Hid (paV ss c = []) := by show _ = _; unfold paV; rw [if_neg (by rw [hok]; decide)]
    rw [HV.out]
    clear hn hQ hT he hok b0 h0 h1 hW0 HV hv hN hz
    go_enter Tryd.func9, Tryd.ntmps9
    go_upto_region 1 with fail
    rw [HW.out]
    go_wp2_with fail
    refine C.out.mono ?_
    rintro e w1 ⟨rfl, hb⟩
    have HB := Lib.hid (B0.out.trans (hb.mono B0.out.size))
    clear hb
    go_wp2_with fail
    go_ret2
    exact ⟨_, rfl, OwnN.nil _ _, HB.out⟩
end Go.Proofs.YthblhibkbcmbaaaDoor

/- Contracts of single functions, and plain lemmas, on which the exact laws of this seat rest; each holds under the conditions that it states. -/
namespace Go.Proofs.YthblhibkbcmbaaaDoor
set_option linter.unusedVariables false
open Go.RowKit

/-- want, the argument's copy and got: each in a variable of its own, made one after the other -/
structure ThreePics (W : World) (b1 b2 b3 lo h2 h3 : Nat) (u v x : Value) (xs ys zs : List ByteArray) : Prop where
  c1 : W.heap[b1]? = some (.cells #[u] 29 (0, 0))
  c2 : W.heap[b2]? = some (.cells #[v] 29 (0, 0))
  c3 : W.heap[b3]? = some (.cells #[x] 29 (0, 0))
  o1 : OwnP W lo u xs
  o2 : OwnP W h2 v ys
  o3 : OwnP W h3 x zs
  lt1 : ∀ j, u.ownBlock = some j → j < h2
  lt2 : ∀ j, v.ownBlock = some j → j < h3
  le : h2 ≤ h3

variable {W W' : World} {b1 b2 b3 lo h2 h3 : Nat} {u v x : Value} {xs ys zs ms : List ByteArray}
theorem ThreePics.below (h : ThreePics W b1 b2 b3 lo h2 h3 u v x xs ys zs) (hb : Below W.heap.size W W') : ThreePics W' b1 b2 b3 lo h2 h3 u v x xs ys zs :=
  ⟨(hb.block _ (Array.getElem?_eq_some_iff.1 h.c1).1).trans h.c1, (hb.block _ (Array.getElem?_eq_some_iff.1 h.c2).1).trans h.c2, (hb.block _ (Array.getElem?_eq_some_iff.1 h.c3).1).trans h.c3, own_below h.o1 hb, own_below h.o2 hb, own_below h.o3 hb, h.lt1, h.lt2, h.le⟩

theorem ThreePics.mark2 (h : ThreePics W b1 b2 b3 lo h2 h3 u v x xs ys zs) (ho : OwnP W' h2 v ms) (hg : W.grownBy W' v.ownBlock) : ThreePics W' b1 b2 b3 lo h2 h3 u v x xs ms zs :=
  ⟨var_far h.c1 h.o2 (by decide) hg, var_far h.c2 h.o2 (by decide) hg, var_far h.c3 h.o2 (by decide) hg, own_apart (k := 0) h.o1 h.o2 h.lt1 hg, ho, own_apart' h.o3 h.o2 h.lt2 hg, h.lt1, h.lt2, h.le⟩
theorem ThreePics.mark3 (h : ThreePics W b1 b2 b3 lo h2 h3 u v x xs ys zs) (ho : OwnP W' h3 x ms) (hg : W.grownBy W' x.ownBlock) : ThreePics W' b1 b2 b3 lo h2 h3 u v x xs ys ms :=
  ⟨var_far h.c1 h.o3 (by decide) hg, var_far h.c2 h.o3 (by decide) hg, var_far h.c3 h.o3 (by decide) hg, own_apart (k := 0) h.o1 h.o3 (fun j hj => Nat.lt_of_lt_of_le (h.lt1 j hj) h.le) hg, own_apart (k := 0) h.o2 h.o3 h.lt2 hg, ho, h.lt1, h.lt2, h.le⟩
theorem ThreePics.v1 (h : ThreePics W b1 b2 b3 lo h2 h3 u v x xs ys zs) : W.cell? ⟨b1, 0, none⟩ = some u := cell_of_one h.c1
theorem ThreePics.v2 (h : ThreePics W b1 b2 b3 lo h2 h3 u v x xs ys zs) : W.cell? ⟨b2, 0, none⟩ = some v := cell_of_one h.c2
theorem ThreePics.v3 (h : ThreePics W b1 b2 b3 lo h2 h3 u v x xs ys zs) : W.cell? ⟨b3, 0, none⟩ = some x := cell_of_one h.c3
theorem ThreePics.grow2 {w : World} (h : ThreePics W b1 b2 b3 lo h2 h3 u v x xs ys zs) (hw : w.heap.size ≤ h2) (hb : Below w.heap.size w W) (hg : W.grownBy W' v.ownBlock) : Below w.heap.size w W' :=
  hb.grown hg hb.size (fun k hk => Nat.le_trans hw (h.o2.lt k hk).1)
theorem ThreePics.grow3 {w : World} (h : ThreePics W b1 b2 b3 lo h2 h3 u v x xs ys zs) (hw : w.heap.size ≤ h2) (hb : Below w.heap.size w W) (hg : W.grownBy W' x.ownBlock) : Below w.heap.size w W' :=
  hb.grown hg hb.size (fun k hk => Nat.le_trans (Nat.le_trans hw h.le) (h.o3.lt k hk).1)

/-- the third picture comes -/
theorem ThreePics.mk' {w2 w3 : World} {P Q : List ByteArray} (h : TwoPics (w2.alloc (.cells #[v] 29)) b1 b2 lo h2 u v P Q) (hle : h2 ≤ (w2.alloc (.cells #[v] 29)).heap.size) (h3' : OwnP w3 (w2.alloc (.cells #[v] 29)).heap.size x zs) (hb : Below (w2.alloc (.cells #[v] 29)).heap.size (w2.alloc (.cells #[v] 29)) w3) :
    ThreePics (w3.alloc (.cells #[x] 29)) b1 b2 w3.heap.size lo h2 (w2.heap.size + 1) u v x P Q zs := by
  have hb2 := hb.trans ((Joins.below_alloc1 w3 (.cells #[x] 29)).mono hb.size)
  have h' := h.below hb2
  refine ⟨h'.c1, h'.c2, heap_alloc_last w3 _, h'.o1, h'.o2, ?_, h.lt, fun j hj => ?_, by simpa using hle⟩
  · have := h3'.alloc (.cells #[x] 29)
    unfold OwnP
    simpa using this
  · have := (h.o2.lt j hj).2
    simpa using this
end Go.Proofs.YthblhibkbcmbaaaDoor

/- Contracts of single functions, and plain lemmas, on which the exact laws of this seat rest; each holds under the conditions that it states. -/
namespace Go.Proofs.YthblhibkbcmbaaaDoor
set_option linter.unusedVariables false
open Go.RowKit

set_option maxHeartbeats 400000 in
theorem szStringS_any (v : Value) (ss : List ByteArray) (left : Int) (w : World) (h0 : 0 ≤ left) (h1 : left ≤ 1048576) (hN : ss.length ≤ maxLen) (hz : ∀ s ∈ ss, s.size ≤ maxLen) (hv : Sl w v ss) :
    Calls Tryd.prog 24 #[v, .int .i64 left] w (SomeSz left ss w) := by
  unfold maxLen at hN hz
  rcases hv with ⟨ao, cap, rfl, rfl⟩ | ⟨b, off, cap, rfl, hpos, hb, hc⟩
  · go_enter Tryd.func24, Tryd.ntmps24
    go_wp2
    refine wp_loop_rounds 1 ?_; rw [rounds_succ]
    go_wp2
    go_ret
    exact ⟨_, rfl, by omega, by omega, fun _ => ⟨by simpa using h0, fun s h => by cases h⟩, Below.refl _ _⟩
  · obtain ⟨n, hn⟩ : ∃ n, ss.length = n := ⟨_, rfl⟩
    rw [hn] at hc hpos hN ⊢
    have HN := Lib.hid hn
    have HC := Lib.hid hc
    have HZ := Lib.hid hz
    clear hn hc hz
    by_cases hl : left - n < 0
    · go_enter Tryd.func24, Tryd.ntmps24
      go_wp2
      go_ret
      exact ⟨_, rfl, by omega, by omega, fun h => absurd h (by decide), Below.refl _ _⟩
    · go_enter Tryd.func24, Tryd.ntmps24
      go_wp2
      go_loop [1, 5] (fun l i => ∃ (k : Nat) (q : Int), k ≤ n ∧ i = .int .i64 k ∧ l = .int .i64 q ∧ 0 ≤ q ∧ q ≤ left ∧ Hid (∀ j, j < k → ((ss.getD j ByteArray.empty).size : Int) ≤ left)) (fun _ i => n - (intOf i).toNat)
      case atStart => exact ⟨0, left - n, Nat.zero_le _, rfl, rfl, by omega, by omega, fun j h => by omega⟩
      case round =>
        obtain ⟨k, q, hk, rfl, rfl, hq0, hq1, H⟩ := hrel
        by_cases hlt : k < n
        · have hcell := HC.out k hlt
          obtain ⟨s, hs⟩ : ∃ s, ss.getD k ByteArray.empty = s := ⟨_, rfl⟩
          rw [hs] at hcell
          have hsz : s.size ≤ 2 ^ 63 - 1 := by
            rw [← hs]
            refine HZ.out _ ?_
            have hk' : k < ss.length := by rw [HN.out]; exact hlt
            rw [List.getD_eq_getElem?_getD, List.getElem?_eq_getElem hk']
            exact List.getElem_mem _
          have Hs := Lib.hid hs
          clear hs
          by_cases hq : q - s.size < 0
          · go_wp2
            go_ret
            exact ⟨_, rfl, by omega, by omega, fun h => absurd h (by decide), Below.refl _ _⟩
          · go_wp2
            go_round
            case rel => exact ⟨k + 1, q - s.size, by omega, by go_num, rfl, by omega, by omega, fun j hj => by
              by_cases e : j = k
              · subst e; rw [Hs.out]; omega
              · exact H.out j (by omega)⟩
            case measure => simp [intOf]; omega
        · obtain rfl : k = n := by omega
          go_wp2
          go_ret
          exact ⟨_, rfl, by omega, by omega, fun _ => ⟨by rw [HN.out]; omega, fun s hs => by
            obtain ⟨j, hj, rfl⟩ := List.getElem_of_mem hs
            have := H.out j (by rw [HN.out] at hj; exact hj)
            rw [List.getD_eq_getElem?_getD, List.getElem?_eq_getElem hj] at this
            exact this⟩, Below.refl _ _⟩

theorem szPicture_any (v : Value) (ss : List ByteArray) (left : Int) (w : World) (h0 : 0 ≤ left) (h1 : left ≤ 1048576) (hN : ss.length ≤ maxLen) (hz : ∀ s ∈ ss, s.size ≤ maxLen) (hv : Sl w v ss) :
    Calls Tryd.prog 6 #[.agg #[v], .int .i64 left] w (SomeSz left ss w) := by
  go_enter Tryd.func6, Tryd.ntmps6
  go_wp2_with fail
  refine (szStringS_any v ss left _ h0 h1 hN hz (hv.below (Joins.below_alloc1 w _))).mono ?_
  rintro e w' ⟨r, rfl, h2, h3, h4, hb⟩
  by_cases hr : r < 0
  · go_wp2_with fail
    go_ret
    exact ⟨_, rfl, by omega, by omega, fun h => absurd h (by decide), (Joins.below_alloc1 w _).trans (hb.mono (by simp))⟩
  · go_wp2_with fail
    go_ret
    exact ⟨_, rfl, by omega, by omega, h4, (Joins.below_alloc1 w _).trans (hb.mono (by simp))⟩
end Go.Proofs.YthblhibkbcmbaaaDoor

/- Contracts of single functions, and plain lemmas, on which the exact laws of this seat rest; each holds under the conditions that it states. -/
namespace Go.Proofs.YthblhibkbcmbaaaDoor
set_option linter.unusedVariables false
set_option linter.unusedSimpArgs false
open Go.RowKit

/-- want (in a slot), the argument's copy (in a variable) and got (in a slot) -/
structure SpN (W : World) (b2 lo h2 h3 : Nat) (u v x : Value) (xs : List Int) (ys : List ByteArray) (zs : List Int) : Prop where
  c2 : W.heap[b2]? = some (.cells #[v] 29 (0, 0))
  o1 : OwnN W lo u xs
  o2 : OwnP W h2 v ys
  o3 : OwnN W h3 x zs
  lt1 : ∀ j, u.ownBlock = some j → j < h2
  lt2 : ∀ j, v.ownBlock = some j → j < h3
  le : h2 ≤ h3
  lb : b2 < h3
section
variable {W W' : World} {b2 lo h2 h3 : Nat} {u v x : Value} {xs zs ns : List Int} {ys ms : List ByteArray}
theorem SpN.below (h : SpN W b2 lo h2 h3 u v x xs ys zs) (hb : Below W.heap.size W W') : SpN W' b2 lo h2 h3 u v x xs ys zs :=
  ⟨(hb.block _ (Array.getElem?_eq_some_iff.1 h.c2).1).trans h.c2, own_below h.o1 hb, own_below h.o2 hb, own_below h.o3 hb, h.lt1, h.lt2, h.le, h.lb⟩
theorem SpN.mark2 (h : SpN W b2 lo h2 h3 u v x xs ys zs) (ho : OwnP W' h2 v ms) (hg : W.grownBy W' v.ownBlock) : SpN W' b2 lo h2 h3 u v x xs ms zs :=
  ⟨var_far h.c2 h.o2 (by decide) hg, own_apart (k := 0) h.o1 h.o2 h.lt1 hg, ho, own_apart' h.o3 h.o2 h.lt2 hg, h.lt1, h.lt2, h.le, h.lb⟩
/-- a row that lies below abides -/
theorem own_under {W W' : World} {base n s h : Nat} {e : TypeId} {v : Value} {xs : List Value} (ho : W.ownsRow base e s v n xs) (hlt : ∀ j, v.ownBlock = some j → j < h) (hb : Below h W W') : W'.ownsRow base e s v n xs := by
  obtain ⟨h1, h2⟩ := ho
  refine ⟨h1, ?_⟩
  rcases h2 with h2 | ⟨g, cap, cur, hv, hg, hh, r⟩
  · exact Or.inl h2
  · exact Or.inr ⟨g, cap, cur, hv, hg, by rw [hb.block g (hlt g (by subst hv; rfl))]; exact hh, r⟩
theorem SpN.mark3 (h : SpN W b2 lo h2 h3 u v x xs ys zs) (ho : OwnN W' h3 x ns) (hg : Below h3 W W') : SpN W' b2 lo h2 h3 u v x xs ys ns :=
  ⟨(hg.block _ h.lb).trans h.c2, own_under h.o1 (fun j hj => Nat.lt_of_lt_of_le (h.lt1 j hj) h.le) hg, own_under h.o2 h.lt2 hg, ho, h.lt1, h.lt2, h.le, h.lb⟩
theorem SpN.v2 (h : SpN W b2 lo h2 h3 u v x xs ys zs) : W.cell? ⟨b2, 0, none⟩ = some v := cell_of_one h.c2
theorem SpN.grow2 {w : World} (h : SpN W b2 lo h2 h3 u v x xs ys zs) (hw : w.heap.size ≤ h2) (hb : Below w.heap.size w W) (hg : W.grownBy W' v.ownBlock) : Below w.heap.size w W' :=
  hb.grown hg hb.size (fun k hk => Nat.le_trans hw (h.o2.lt k hk).1)
theorem SpN.grow3 {w : World} (h : SpN W b2 lo h2 h3 u v x xs ys zs) (hw : w.heap.size ≤ h2) (hb : Below w.heap.size w W) (hg : Below h3 W W') : Below w.heap.size w W' :=
  hb.trans (hg.mono (Nat.le_trans hw h.le))
theorem own_formN {base : Nat} {ns : List Int} (h : OwnN W base v ns) : ∃ ao n cap, v = .slice ao n cap := by
  rcases Joins.ownsRow_forms h with ⟨rfl, _⟩ | ⟨g, cap, rfl⟩
  · exact ⟨_, _, _, rfl⟩
  · exact ⟨_, _, _, rfl⟩
end

set_option maxHeartbeats 4000000 in
set_option maxRecDepth 100000 in
theorem law_PictureAlong (v : Value) (c : Int) (ss : List ByteArray) (w : World) (hN : ss.length ≤ maxLen) (hz : ∀ s ∈ ss, s.size ≤ maxLen) (hv : Sl w v ss) (he : ErrLen w) (hNoRes : NoRes w) (hQvP : QvP w) (hTab6 : Tab6 w) :
    Calls Tryd.prog 3 #[.agg #[v], .int .i64 c] w fun e w' => e = .returned (.bool true) ∧ Below w.heap.size w w' := by
  obtain ⟨P, ok, hPl, hS, hI⟩ : ∃ (P : List Int) (ok : Bool), P.length ≤ 257 ∧ (∀ u W, Sl W u ss → Calls Tryd.prog 7 #[.agg #[u], .int .i64 c] W (SaysN P ok W)) ∧ (∀ u W, Sl W u ss → ErrLen W → NoRes W → QvP W → Tab6 W → Calls Tryd.prog 9 #[.agg #[u], .int .i64 c] W (SaysN P ok W)) :=
    ⟨paV ss c, paOk ss c, paV_len ss c, fun u W hu => spec_PicAlong c u ss W hN hz hu, fun u W hu hw n0 n1 n2 => impl_PicAlong c u ss W hN hz hu hw n0 n1 n2⟩
  have CS := Lib.hid hS
  have CI := Lib.hid hI
  have HSL : Hid (∀ W, Below w.heap.size w W → Sl W v ss) := fun W hb => hv.below hb
  have HEL : Hid (∀ W, Below w.heap.size w W → ErrLen W) := fun W hb => he.below hb
  have HYNoRes : Hid (∀ W, Below w.heap.size w W → NoRes W) := fun W hb => hNoRes.below hb
  have HYQvP : Hid (∀ W, Below w.heap.size w W → QvP W) := fun W hb => hQvP.below hb
  have HYTab6 : Hid (∀ W, Below w.heap.size w W → Tab6 W) := fun W hb => hTab6.below hb
  have b0 := Joins.below_alloc1 w (.cells #[v] 24)
  have hc0 : (w.alloc (.cells #[v] 24)).cell? ⟨w.heap.size, 0, none⟩ = some v := by rw [World.cell?_alloc_mark]; rfl
  have C0 := Lib.hid (szPicture_any v ss 1048576 (w.alloc (.cells #[v] 24)) (by omega) (by omega) hN hz (HSL.out _ b0))
  have B0 := Lib.hid b0
  obtain ⟨m, hm0, hM, hH⟩ : ∃ m : Int, 0 ≤ m ∧ (∀ v base W, OwnN W base v P → Calls Tryd.prog 13 #[v, .int .i64 1] W (fun e w' => e = .returned (.int .i64 m) ∧ OwnN w' base v (marksN 1 P.length) ∧ Below base W w')) ∧ (∀ v W, SlN W v (marksN 1 P.length) → Calls Tryd.prog 14 #[v, .int .i64 1] W (fun e w' => e = .returned (.int .i64 m) ∧ Below W.heap.size W w')) :=
    ⟨((1 + P.length : Nat) : Int), by omega, fun v base W h => markInt64N base v P 1 W (by omega) (by omega) h, fun v W h => heldInt64N v P.length 1 W (by omega) (by omega) h⟩
  have CM := Lib.hid hM
  have CH := Lib.hid hH
  have CE : Hid (∀ u v W, SlN W u P → SlN W v P → Calls Tryd.prog 10 #[u, v] W (fun e w' => e = .returned (.bool true) ∧ Below W.heap.size W w')) := fun u v W hu hv => eqInt64N u v P W (by unfold maxLen; omega) hu hv
  have CEs : Hid (∀ u v W, Sl W u ss → Sl W v ss → Calls Tryd.prog 11 #[.agg #[u], .agg #[v]] W (SaysB true W)) := fun u v W hu hv => by
    have := eqPicture_any u v ss ss W hN hN hu hv
    rwa [sameL_self] at this
  clear hS hI hM hH hv he b0 hNoRes hQvP hTab6
  go_enter Tryd.func3, Tryd.ntmps3
  go_wp2_with fail
  refine C0.out.mono ?_
  rintro e w1 ⟨r, rfl, hr1, hr2, hr3, hb1⟩
  by_cases hr : r < 0
  · have HB1 := Lib.hid hb1
    clear hb1 hr3
    go_wp2_with fail
    go_ret
    exact ⟨rfl, B0.out.trans (HB1.out.mono (by simp))⟩
  · have hsm : ss.length ≤ 1048576 := by have := (hr3 (by omega)).1; omega
    have hc1 := cell_kept hb1 hc0
    have B1 : Hid (Below w.heap.size w w1) := B0.out.trans (hb1.mono (by simp))
    have l1 : w.heap.size < w1.heap.size := by have := hb1.size; simp at this; omega
    obtain ⟨m2, hm2, hM2⟩ : ∃ m : Int, 0 ≤ m ∧ (∀ v base W, OwnP W base v ss → Calls Tryd.prog 12 #[.agg #[v], .int .i64 1] W (fun e w' => e = .returned (.int .i64 m) ∧ OwnP w' base v (marks 1 ss.length) ∧ W.grownBy w' v.ownBlock)) :=
      ⟨((1 + ss.length : Nat) : Int), by omega, fun v base W h => markPicture_any v ss base 1 W (by omega) (by omega) h⟩
    have CM2 := Lib.hid hM2
    clear hb1 hr3 hr2 hr1 hc0 hM2
    go_wp2_with fail
    refine (toPicture_any v ss _ hsm (HSL.out _ B1.out)).mono ?_
    rintro e w2 ⟨g2, cap2, rfl, hown2, hb2⟩
    have hc2 := cell_kept hb2 hc1
    have B2 : Hid (Below w.heap.size w w2) := B1.out.trans (hb2.mono B1.out.size)
    have l2 : w.heap.size < w2.heap.size := Nat.lt_of_lt_of_le l1 hb2.size
    have S2 := Lib.hid hown2.sl
    clear hb2 hown2 hc1
    go_wp2_with fail
    refine (CS.out _ _ S2.out).mono ?_
    rintro e w3 ⟨v3, rfl, h3, hb3⟩
    obtain ⟨ao3, n3, cap3, rfl⟩ := own_formN h3
    have hc3 := cell_kept hb3 hc2
    have B3 : Hid (Below w.heap.size w w3) := B2.out.trans (hb3.mono B2.out.size)
    have O3 := Lib.hid h3
    have l3 : w.heap.size < w3.heap.size := Nat.lt_of_lt_of_le l2 hb3.size
    clear hb3 h3 hc2 S2
    go_wp2_with fail
    refine (toPicture_any v ss _ hsm (HSL.out _ B3.out)).mono ?_
    rintro e w4 ⟨g4, cap4, rfl, hown4, hb4⟩
    have ba := Joins.below_alloc1 w4 (.cells #[.slice (some ⟨g4, 0, none⟩) ss.length cap4] 29)
    have hc4 := cell_kept ba (cell_kept hb4 hc3)
    have B4 : Hid (Below w.heap.size w (w4.alloc (.cells #[.slice (some ⟨g4, 0, none⟩) ss.length cap4] 29))) := (B3.out.trans (hb4.mono B3.out.size)).alloc (Nat.le_trans B3.out.size hb4.size) _
    have l4 : w3.heap.size ≤ w4.heap.size := hb4.size
    have p1 := Lib.hid (own_below (own_below O3.out hb4) ba)
    have p2 := Lib.hid (own_below hown4 ba)
    have p3 : Hid (∀ j, (Value.slice ao3 n3 cap3).ownBlock = some j → j < w3.heap.size) := fun j hj => (O3.out.lt j hj).2
    have p4 : Hid (∀ j, (Value.slice (some ⟨g4, 0, none⟩) ss.length cap4).ownBlock = some j → j < w4.heap.size + 1) := fun j hj => Nat.lt_succ_of_lt (hown4.lt j hj).2
    have e4 : (w4.alloc (.cells #[.slice (some ⟨g4, 0, none⟩) ss.length cap4] 29)).cell? ⟨w4.heap.size, 0, none⟩ = some (.slice (some ⟨g4, 0, none⟩) ss.length cap4) := cell_of_one (heap_alloc_last w4 _)
    clear hb4 hown4 hc3 ba O3
    go_wp2_with fail
    refine (CI.out _ _ (OwnP.sl p2.out) (HEL.out _ B4.out) (HYNoRes.out _ B4.out) (HYQvP.out _ B4.out) (HYTab6.out _ B4.out)).mono ?_
    rintro e w5 ⟨v5, rfl, h5, hb5⟩
    obtain ⟨ao5, n5, cap5, rfl⟩ := own_formN h5
    have T5 : Hid (SpN w5 w4.heap.size w2.heap.size w3.heap.size (w4.heap.size + 1) (.slice ao3 n3 cap3) (.slice (some ⟨g4, 0, none⟩) ss.length cap4) (.slice ao5 n5 cap5) P ss P) :=
      ⟨(hb5.block _ (by simp)).trans (heap_alloc_last w4 _), own_below p1.out hb5, own_below p2.out hb5, by have := h5; unfold OwnN at this ⊢; simpa using this, p3.out, p4.out, by omega, by omega⟩
    have B5 : Hid (Below w.heap.size w w5) := B4.out.trans (hb5.mono B4.out.size)
    have hc5 := cell_kept hb5 hc4
    have hlo : w.heap.size ≤ w3.heap.size := by omega
    clear hb5 h5 hc4 e4 p1 p2 p3 p4
    go_wp2_with fail
    refine (CE.out _ _ _ T5.out.o3.sl T5.out.o1.sl).mono ?_
    rintro e w6 ⟨rfl, hb6⟩
    have T6 := Lib.hid (T5.out.below hb6)
    have B6 := Lib.hid (B5.out.trans (hb6.mono B5.out.size))
    have hc6 := cell_kept hb6 hc5
    have HX : Hid (∀ W, Below w6.heap.size w6 W → W.cell? ⟨w.heap.size, 0, none⟩ = some v ∧ W.cell? ⟨w4.heap.size, 0, none⟩ = some (.slice (some ⟨g4, 0, none⟩) ss.length cap4)) := fun W hb => ⟨cell_kept hb hc6, (T6.out.below hb).v2⟩
    have HT : Hid (∀ W, Below w6.heap.size w6 W → Calls Tryd.prog 8 #[.agg #[v]] W (TookPic W ss)) := fun W hb => toPicture_any v ss W hsm (HSL.out _ (B6.out.trans (hb.mono B6.out.size)))
    have HE : Hid (∀ W v3, Below w6.heap.size w6 W → Sl W v3 ss → Calls Tryd.prog 11 #[.agg #[.slice (some ⟨g4, 0, none⟩) ss.length cap4], .agg #[v3]] W (SaysB true W)) := fun W v3 hb h3 => CEs.out _ v3 W (OwnP.sl (T6.out.below hb).o2) h3
    clear hb6 hc5
    go_wp2_with fail
    go_region_held3 (fun w' => w'.cell? ⟨w.heap.size, 0, none⟩ = some v ∧ w'.cell? ⟨w4.heap.size, 0, none⟩ = some (.slice (some ⟨g4, 0, none⟩) ss.length cap4))
      (first | exact HX.out _ (Below.refl _ _) | exact HX.out _ (Below.refl _ _).drew | exact HX.out _ ((Below.refl _ _).drew.trans hb7) | exact HX.out _ (((Below.refl _ _).drew.trans hb7).trans (hb8.mono hb7.size)))
      (first | (go_at_call 8; refine (HT.out _ (Below.refl _ _).drew).mono ?_; rintro e w7 ⟨g7, cap7, rfl, hown7, hb7⟩) | (go_at_call 11; refine (HE.out _ _ ((Below.refl _ _).drew.trans hb7) hown7.sl).mono ?_; rintro e w8 ⟨rfl, hb8⟩))
    have hb68 := (Below.refl w6.heap.size w6).drew.trans (hb7.trans (hb8.mono hb7.size))
    have T8 := Lib.hid (T6.out.below hb68)
    have B8 : Hid (Below w.heap.size w w8) := B6.out.trans (hb68.mono B6.out.size)
    have hc8 := cell_kept hb68 hc6
    have y2 := T8.out.v2
    clear hb7 hb8 hb68 hown7 hc6 HX HT HE
    go_wp2_with fail
    refine (CM2.out _ _ _ T8.out.o2).mono ?_
    rintro e w9 ⟨rfl, ho9, hg9⟩
    have T9 := Lib.hid (T8.out.mark2 ho9 hg9)
    have B9 := Lib.hid (T8.out.grow2 hlo B8.out hg9)
    have hc9 : w9.cell? ⟨w.heap.size, 0, none⟩ = some v := by
      rw [World.cell?_of_block (hg9.block w.heap.size (blk_lt hc8) (fun e1 => by have := (T8.out.o2.lt _ e1.symm).1; omega))]; exact hc8
    clear ho9 hg9 y2 hc8
    go_wp2_with fail
    refine (CE.out _ _ _ T9.out.o3.sl T9.out.o1.sl).mono ?_
    rintro e w10 ⟨rfl, hb10⟩
    have T10 := Lib.hid (T9.out.below hb10)
    have B10 := Lib.hid (B9.out.trans (hb10.mono B9.out.size))
    have hc10 := cell_kept hb10 hc9
    clear hb10 hc9
    go_wp2_with fail
    refine (CM.out _ _ _ T10.out.o3).mono ?_
    rintro e w11 ⟨rfl, ho11, hg11⟩
    have T11 := Lib.hid (T10.out.mark3 ho11 hg11)
    have B11 := Lib.hid (T10.out.grow3 hlo B10.out hg11)
    have hc11 : w11.cell? ⟨w.heap.size, 0, none⟩ = some v := by
      rw [World.cell?_of_block (hg11.block w.heap.size (by have := T10.out.le; have := l3; omega))]; exact hc10
    clear ho11 hg11 hc10
    go_wp2_with fail
    refine (CH.out _ _ T11.out.o3.sl).mono ?_
    rintro e w12 ⟨rfl, hb12⟩
    have T12 := Lib.hid (T11.out.below hb12)
    have B12 := Lib.hid (B11.out.trans (hb12.mono B11.out.size))
    have hc12 := cell_kept hb12 hc11
    clear hb12 hc11
    go_wp2_with fail
    refine (toPicture_any v ss _ hsm (HSL.out _ B12.out)).mono ?_
    rintro e w13 ⟨g13, cap13, rfl, hown13, hb13⟩
    have T13 := Lib.hid (T12.out.below hb13)
    have B13 := Lib.hid (B12.out.trans (hb13.mono B12.out.size))
    have S13 := Lib.hid hown13.sl
    clear hb13 hown13 hc12
    go_wp2_with fail
    refine (CI.out _ _ S13.out (HEL.out _ B13.out) (HYNoRes.out _ B13.out) (HYQvP.out _ B13.out) (HYTab6.out _ B13.out)).mono ?_
    rintro e w14 ⟨v14, rfl, h14, hb14⟩
    obtain ⟨ao14, n14, cap14, rfl⟩ := own_formN h14
    have T14 := Lib.hid (T13.out.below hb14)
    have B14 : Hid (Below w.heap.size w w14) := B13.out.trans (hb14.mono B13.out.size)
    have O14 := Lib.hid (OwnN.sl h14)
    clear h14 hb14
    go_wp2_with fail
    refine (CE.out _ _ _ O14.out T14.out.o1.sl).mono ?_
    rintro e w15 ⟨rfl, hb15⟩
    have T15 := Lib.hid (T14.out.below hb15)
    have B15 := Lib.hid (B14.out.trans (hb15.mono B14.out.size))
    clear hb15
    go_wp2_with fail
    refine (CH.out _ _ T15.out.o3.sl).mono ?_
    rintro e w16 ⟨rfl, hb16⟩
    have B16 := Lib.hid (B15.out.trans (hb16.mono B15.out.size))
    clear hb16
    go_wp2
    go_ret
    exact ⟨rfl, B16.out⟩
end Go.Proofs.YthblhibkbcmbaaaDoor
