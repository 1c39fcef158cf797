/- Contracts of single functions, and plain lemmas, on which the exact laws of this seat rest; each holds under the conditions that it states. -/
import Derived.Test.YthblhibkbcmbaaaDoorKF
import Derived.Test.YthblhibkbcmbaaaDoorKA
import Derived.Test.YthblhibkbcmbaaaDoorSM
import Derived.Test.YthblhibkbcmbaaaDoorJa
import Derived.Test.YthblhibkbcmbaaaDoorSF
import Derived.Test.YthblhibkbcmbaaaDoorKS
import Derived.Test.YthblhibkbcmbaaaDoorKH
import Derived.Test.YthblhibkbcmbaaaDoorCX2
namespace Go.Proofs.YthblhibkbcmbaaaDoor
set_option linter.unusedVariables false
set_option linter.unusedSimpArgs false
open Go.RowKit
attribute [local go_sem] Oper.semAt_some

set_option maxHeartbeats 4000000 in
set_option maxRecDepth 100000 in
theorem paWork_no1 (pc pk : Nat) (v : Value) (ss : List ByteArray) (w : World) (hN : ss.length ≤ maxLen) (hz : ∀ s ∈ ss, s.size ≤ maxLen) (hv : Sl w v ss) (he : ErrLen w) (hn : NoRes w)
    (hpc : w.cell? ⟨pc, 0, none⟩ = some v) (hok : validB ss = false) :
    Calls Tryd.prog 33 #[.pointer (some ⟨pc, 0, none⟩), .pointer (some ⟨pk, 0, none⟩)] w (fun e w' => (∃ T x, e = .panicked [{ v := .iface T x, recovered := false }]) ∧ Below w.heap.size w w') := by
  have CM := Lib.hid (reqMat_no v ss w hN hz hv he hn hok)
  clear hN hz hv he hn hok
  go_enter Tryd.func33, Tryd.ntmps33
  go_wp2_with fail
  refine CM.out.mono ?_
  rintro e w1 ⟨⟨T, x, rfl⟩, hb⟩
  have B1 := Lib.hid hb
  clear hb
  go_wp2
  exact ⟨rfl, ⟨T, x, rfl⟩, B1.out⟩

set_option maxHeartbeats 4000000 in
set_option maxRecDepth 100000 in
theorem paWork_no2 (pc pk : Nat) (v : Value) (ss : List ByteArray) (w : World) (hN : ss.length ≤ maxLen) (hz : ∀ s ∈ ss, s.size ≤ maxLen) (hv : Sl w v ss) (he : ErrLen w) (hn : NoRes w)
    (hpc : w.cell? ⟨pc, 0, none⟩ = some v) (hok : validB ss = true) (hbad : (row0 ss).size ≠ ss.length ∨ odV ((row0 ss).size : Int) = -1) :
    Calls Tryd.prog 33 #[.pointer (some ⟨pc, 0, none⟩), .pointer (some ⟨pk, 0, none⟩)] w (fun e w' => (∃ T x, e = .panicked [{ v := .iface T x, recovered := false }]) ∧ Below w.heap.size w w') := by
  have V := vp_of hok
  have hw16 : 1 ≤ (row0 ss).size ∧ (row0 ss).size ≤ 16 := ⟨V.w1, V.w16⟩
  have hsz := matC_size ss
  have hone := matC_one ss
  have hMM := matC_yes hok
  have CM := Lib.hid (reqMat_yes v ss w hN hz hv he hok)
  have CTr := Lib.hid (fun W => isTree_any (row0 ss).size W hw16)
  have HNr : Hid (∀ W, Below w.heap.size w W → NoRes W) := fun W hb => hn.below hb
  have HBad := Lib.hid hbad
  obtain ⟨M, hM⟩ : ∃ M, matC ss = M := ⟨_, rfl⟩
  rw [hM] at CM hsz hone hMM
  have HI : Hid ((Tryd.prog.info? 59).map (·.size) = some M.size) := by show _ = _; rw [hsz]; exact infoM
  have HZ := Lib.hid (zeros_size.trans hsz.symm)
  have HO := Lib.hid hone
  obtain ⟨a, ha⟩ : ∃ a, (row0 ss).size = a := ⟨_, rfl⟩
  obtain ⟨b, hb⟩ : ∃ a, ss.length = a := ⟨_, rfl⟩
  rw [ha, hb] at hMM
  rw [ha] at hw16
  rw [ha] at CTr
  have HBad2 : Hid (a ≠ b ∨ odV (a : Int) = -1) := by show _ ∨ _; rw [← ha, ← hb]; exact hbad
  have HMM := Lib.hid hMM
  clear hok hM hsz hone hMM V hv he hN hz ha hb hbad HBad hn
  go_enter Tryd.func33, Tryd.ntmps33
  go_wp2_with fail
  refine CM.out.mono ?_
  rintro e w1 ⟨rfl, hb1⟩
  have HB1 := Lib.hid hb1
  clear hb1
  go_wp2_with (refine wpList_store_new w1 rfl 59 _ _ rfl M rfl rfl 59 zeros HI.out HZ.out HO.out ?_; refine Hid.out ?_)
  have hb1 := HB1.out
  have hm0 : (w1.alloc (.cells M 59)).heap[w1.heap.size]? = some (.cells M 59 (0, 0)) := heap_alloc_last w1 _
  have hBm : Below w.heap.size w (w1.alloc (.cells M 59)) := hb1.alloc hb1.size _
  have k0 : (w1.alloc (.cells M 59)).cell? ⟨w1.heap.size, 0, none⟩ = some (.int .i64 (a : Int)) := by rw [Joins.cell_of_block hm0 0, HMM.out]; rfl
  have k1 : (w1.alloc (.cells M 59)).cell? ⟨w1.heap.size, 1, none⟩ = some (.int .i64 (b : Int)) := by rw [Joins.cell_of_block hm0 1, HMM.out]; rfl
  have hlt : w1.heap.size < (w1.alloc (.cells M 59)).heap.size := by simp
  refine Lib.hid ?_
  obtain ⟨mb, hmb⟩ : ∃ z, w1.heap.size = z := ⟨_, rfl⟩
  obtain ⟨Wm, hWm⟩ : ∃ W, w1.alloc (.cells M 59) = W := ⟨_, rfl⟩
  rw [hWm, hmb] at k0 k1
  rw [hWm] at hBm
  rw [hWm, hmb]
  have HBm := Lib.hid hBm
  clear hm0 hBm hb1 hmb hWm hlt
  by_cases hab : a = b
  · subst hab
    have hod : odV (a : Int) = -1 := HBad2.out.resolve_left (fun h => h rfl)
    rw [hod, show decide ((0 : Int) ≤ -1) = false from by decide] at CTr
    clear hod HBad2
    go_wp2_with fail
    refine (CTr.out _).mono ?_
    rintro e Wm ⟨rfl, rfl⟩
    go_wp2_with fail
    refine (require_no _ (HNr.out _ HBm.out)).mono ?_
    rintro e Wm ⟨T, x, rfl, rfl⟩
    go_wp2
    exact ⟨rfl, ⟨T, x, rfl⟩, HBm.out⟩
  · have hne : ¬ ((a : Int) = (b : Int)) := by omega
    clear hab HBad2
    go_wp2_with fail
    refine (require_no _ (HNr.out _ HBm.out)).mono ?_
    rintro e Wm ⟨T, x, rfl, rfl⟩
    go_wp2
    exact ⟨rfl, ⟨T, x, rfl⟩, HBm.out⟩

set_option maxHeartbeats 8000000 in
set_option maxRecDepth 100000 in
theorem paWork_no3 (pc pk : Nat) (c : Int) (v : Value) (ss : List ByteArray) (w : World) (hN : ss.length ≤ maxLen) (hz : ∀ s ∈ ss, s.size ≤ maxLen) (hv : Sl w v ss) (he : ErrLen w) (hnr : NoRes w) (hT : Tab6 w)
    (hpc : w.cell? ⟨pc, 0, none⟩ = some v) (hpk : w.cell? ⟨pk, 0, none⟩ = some (.int .i64 c)) (hok : validB ss = true) (hwh : (row0 ss).size = ss.length) (n : Nat) (hn4 : n ≤ 4) (hod : odV ((row0 ss).size : Int) = (n : Int)) (ha2 : (row0 ss).size = 2 ^ n) (hc : inB c 0 3 = false) :
    Calls Tryd.prog 33 #[.pointer (some ⟨pc, 0, none⟩), .pointer (some ⟨pk, 0, none⟩)] w (fun e w' => (∃ T x, e = .panicked [{ v := .iface T x, recovered := false }]) ∧ Below w.heap.size w w') := by
  have V := vp_of hok
  have hw16 : 1 ≤ (row0 ss).size ∧ (row0 ss).size ≤ 16 := ⟨V.w1, V.w16⟩
  have hsz := matC_size ss
  have hone := matC_one ss
  have hMM := matC_yes hok
  have CM := Lib.hid (reqMat_yes v ss w hN hz hv he hok)
  have CTr := Lib.hid (fun W => isTree_any (row0 ss).size W hw16)
  rw [hod, decide_eq_true (show (0 : Int) ≤ (n : Int) by omega)] at CTr
  have CZ : Hid (∀ W, Below w.heap.size w W → Calls Tryd.prog 37 #[.int .u64 ((row0 ss).size : Int)] W (fun e w' => e = .returned (.int .i64 (n : Int)) ∧ W = w')) := fun W hb => by
    have := tz64 (row0 ss).size W (by omega) (hT.below hb)
    rw [show Lib.ctz 64 (row0 ss).size = n from by rw [ha2]; exact ctz_pow n hn4] at this
    exact this
  have CT := Lib.hid (fun W (hb : Below w.heap.size w W) => requiredTour_no c (n : Int) W (by rw [hc]; rfl) (hnr.below hb))
  obtain ⟨M, hM⟩ : ∃ M, matC ss = M := ⟨_, rfl⟩
  rw [hM] at CM hsz hone hMM
  have HI : Hid ((Tryd.prog.info? 59).map (·.size) = some M.size) := by show _ = _; rw [hsz]; exact infoM
  have HZ := Lib.hid (zeros_size.trans hsz.symm)
  have HO := Lib.hid hone
  obtain ⟨a, ha⟩ : ∃ a, (row0 ss).size = a := ⟨_, rfl⟩
  obtain ⟨b, hb⟩ : ∃ a, ss.length = a := ⟨_, rfl⟩
  rw [ha, hb] at hMM
  rw [ha] at hw16
  rw [ha] at CTr CZ
  have hab : a = b := by rw [← ha, ← hb]; exact hwh
  subst hab
  have HMM := Lib.hid hMM
  have kU : IntKind.u64.wrap (a : Int) = (a : Int) := IntWalk.u64_in _ (by omega)
  clear hod hT hc hok hwh hM hsz hone hMM V hv he hN hz ha hb hn4 hnr
  go_enter Tryd.func33, Tryd.ntmps33
  go_wp2_with fail
  refine CM.out.mono ?_
  rintro e w1 ⟨rfl, hb1⟩
  have HB1 := Lib.hid hb1
  clear hb1
  go_wp2_with (refine wpList_store_new w1 rfl 59 _ _ rfl M rfl rfl 59 zeros HI.out HZ.out HO.out ?_; refine Hid.out ?_)
  have hb1 := HB1.out
  have hm0 : (w1.alloc (.cells M 59)).heap[w1.heap.size]? = some (.cells M 59 (0, 0)) := heap_alloc_last w1 _
  have hBm : Below w.heap.size w (w1.alloc (.cells M 59)) := hb1.alloc hb1.size _
  have k0 : (w1.alloc (.cells M 59)).cell? ⟨w1.heap.size, 0, none⟩ = some (.int .i64 (a : Int)) := by rw [Joins.cell_of_block hm0 0, HMM.out]; rfl
  have k1 : (w1.alloc (.cells M 59)).cell? ⟨w1.heap.size, 1, none⟩ = some (.int .i64 (a : Int)) := by rw [Joins.cell_of_block hm0 1, HMM.out]; rfl
  have hlt : w1.heap.size < (w1.alloc (.cells M 59)).heap.size := by simp
  refine Lib.hid ?_
  obtain ⟨mb, hmb⟩ : ∃ z, w1.heap.size = z := ⟨_, rfl⟩
  obtain ⟨Wm, hWm⟩ : ∃ W, w1.alloc (.cells M 59) = W := ⟨_, rfl⟩
  rw [hWm, hmb] at hm0 k0 k1 hlt
  rw [hWm] at hBm
  rw [hWm, hmb]
  have HBm := Lib.hid hBm
  have HMx : Hid (∀ W, Below Wm.heap.size Wm W → W.heap[mb]? = some (.cells M 59 (0, 0))) := fun W hb => (hb.block mb hlt).trans hm0
  clear hm0 hBm hb1 hmb hWm hlt ha2
  go_wp2_with fail
  refine (CTr.out _).mono ?_
  rintro e Wm ⟨rfl, rfl⟩
  go_wp2_with fail
  refine (require_yes _).mono ?_
  rintro e Wm ⟨rfl, rfl⟩
  go_wp2_with fail
  refine (CZ.out _ HBm.out).mono ?_
  rintro e Wm ⟨rfl, rfl⟩
  clear k0 k1
  go_upto_region 4 with fail
  refine wp_region_inv_at (by kernel_rfl) (fun A0 L A W => ∃ (b0 b1 b2 b3 b4 b5 : Bool) (v22 v23 v24 v25 v26 v2 : Value), L = #[b0, b1, b2, b3, b4, b5] ∧ A = ((((((A0.put (some 22) v22).put (some 23) v23).put (some 24) v24).put (some 25) v25).put (some 26) v26).put (some 2) v2) ∧ (Below Wm.heap.size Wm W) ∧ Hid (b0 = true → v22 = .int .i64 c) ∧ Hid (b1 = true → v23 = .int .i64 (n : Int)) ∧ Hid (b2 = true → False) ∧ Hid (b3 = true → v25 = .agg M) ∧ Hid (b4 = true → v26 = .agg M) ∧ Hid (b5 = true → v2 = .agg M)) ?_ ?_ ?_
  · intro A0
    refine ⟨false, false, false, false, false, false, A0.tmps.getD 22 undef, A0.tmps.getD 23 undef, A0.tmps.getD 24 undef, A0.tmps.getD 25 undef, A0.tmps.getD 26 undef, A0.tmps.getD 2 undef, rfl, (by simp only [put_self]), (Below.refl _ _).drew, Lib.hid (fun hf => by cases hf), Lib.hid (fun hf => by cases hf), Lib.hid (fun hf => by cases hf), Lib.hid (fun hf => by cases hf), Lib.hid (fun hf => by cases hf), Lib.hid (fun hf => by cases hf)⟩
  · intro L A W hI i hi o ho K' hK
    have hlt := (ready_left hi).1
    have hun := (ready_left hi).2
    have haf := ready_after hi ho
    clear hi
    obtain ⟨b0, b1, b2, b3, b4, b5, v22, v23, v24, v25, v26, v2, rfl, rfl, hB, h0, h1, h2, h3, h4, h5⟩ := hI
    have hc : i = 0 ∨ i = 1 ∨ i = 2 ∨ i = 3 ∨ i = 4 ∨ i = 5 := by
      simp at hlt
      omega
    have qk := cell_kept (HBm.out.trans (hB.mono HBm.out.size)) hpk
    have qM := HMx.out W hB
    rcases hc with rfl | rfl | rfl | rfl | rfl | rfl
    all_goals (obtain rfl := Option.some.inj ho; clear ho; simp [Region.binds] at haf hun; (try simp only [List.getElem_toArray, List.getElem_cons_zero, List.getElem_cons_succ]); simp only [Act.put, List.setIfInBounds_toArray, List.set_cons_zero, List.set_cons_succ])
    · -- operation 0
      replace hK := Lib.hid hK
      subst hun
      go_simp
      exact hK.out _ _ ⟨true, b1, b2, b3, b4, b5, .int .i64 c, v23, v24, v25, v26, v2, rfl, (by simp only [Act.put, List.setIfInBounds_toArray, List.set_cons_zero, List.set_cons_succ]), hB, Lib.hid (fun _ => rfl), h1, h2, h3, h4, h5⟩
    · -- operation 1
      replace hK := Lib.hid hK
      subst hun
      go_simp
      exact hK.out _ _ ⟨b0, true, b2, b3, b4, b5, v22, .int .i64 (n : Int), v24, v25, v26, v2, rfl, (by simp only [Act.put, List.setIfInBounds_toArray, List.set_cons_zero, List.set_cons_succ]), hB, h0, Lib.hid (fun _ => rfl), h2, h3, h4, h5⟩
    · -- operation 2
      replace hK := Lib.hid hK
      obtain rfl := (h0.out (by simp only [haf])).symm
      obtain rfl := (h1.out (by simp only [haf])).symm
      subst hun
      go_simp
      refine (CT.out W (HBm.out.trans (hB.mono HBm.out.size))).mono ?_
      rintro e W' ⟨⟨T, x, rfl⟩, hb⟩
      exact ⟨rfl, ⟨T, x, rfl⟩, (HBm.out.trans (hB.mono HBm.out.size)).trans (hb.mono (Nat.le_trans HBm.out.size hB.size))⟩
    · -- operation 3
      replace hK := Lib.hid hK
      subst hun
      rw [if_pos (by simp [Region.wanted])]
      refine wp_load_row 59 _ rfl mb rfl 59 M (0, 0) _ qM Tryd.underlying59 rfl HI.out ?_
      exact hK.out _ _ ⟨b0, b1, b2, true, b4, b5, v22, v23, v24, .agg M, v26, v2, rfl, (by simp only [Act.put, List.setIfInBounds_toArray, List.set_cons_zero, List.set_cons_succ]), hB, h0, h1, h2, Lib.hid (fun _ => rfl), h4, h5⟩
    · -- operation 4
      replace hK := Lib.hid hK
      exact (h2.out (by simp only [haf])).elim
    · -- operation 5
      replace hK := Lib.hid hK
      obtain rfl := (h4.out (by simp only [haf])).symm
      subst hun
      go_simp
      exact hK.out _ _ ⟨b0, b1, b2, b3, b4, true, v22, v23, v24, v25, .agg M, .agg M, rfl, (by simp only [Act.put, List.setIfInBounds_toArray, List.set_cons_zero, List.set_cons_succ]), hB, h0, h1, h2, h3, Lib.hid (fun _ => rfl), Lib.hid (fun _ => rfl)⟩
  intro L A W hI hr
  obtain ⟨b0, b1, b2, b3, b4, b5, v22, v23, v24, v25, v26, v2, rfl, rfl, hB, h0, h1, h2, h3, h4, h5⟩ := hI
  have d0 := ready_done hr 0 _ rfl (by simp [Region.binds])
  have d1 := ready_done hr 1 _ rfl (by simp [Region.binds])
  have d3 := ready_done hr 3 _ rfl (by simp [Region.binds])
  simp at d0 d1 d3
  subst d0 d1 d3
  have d2 := ready_done hr 2 _ rfl (by simp [Region.binds])
  simp at d2
  subst d2
  exact (h2.out rfl).elim

theorem call_PA1 : ∀ args (W : World), (callFunc 33 args).run Tryd.prog W = .ok (.enter 33 args) W := by
  intro args W
  first | (go_simp; done) | (simp [callFunc, go_sem]; done) | kernel_rfl

theorem paWork_no (pc pk : Nat) (c : Int) (v : Value) (ss : List ByteArray) (w : World) (hN : ss.length ≤ maxLen) (hz : ∀ s ∈ ss, s.size ≤ maxLen) (hv : Sl w v ss) (he : ErrLen w) (hnr : NoRes w) (hT : Tab6 w)
    (hpc : w.cell? ⟨pc, 0, none⟩ = some v) (hpk : w.cell? ⟨pk, 0, none⟩ = some (.int .i64 c)) (hok : paOk ss c = false) :
    Calls Tryd.prog 33 #[.pointer (some ⟨pc, 0, none⟩), .pointer (some ⟨pk, 0, none⟩)] w (fun e w' => (∃ T x, e = .panicked [{ v := .iface T x, recovered := false }]) ∧ Below w.heap.size w w') := by
  cases hv1 : validB ss with
  | false => exact paWork_no1 pc pk v ss w hN hz hv he hnr hpc hv1
  | true =>
    by_cases hwh : (row0 ss).size = ss.length
    · rcases od_cases (row0 ss).size with h | ⟨n, hn4, hod, ha2⟩
      · exact paWork_no2 pc pk v ss w hN hz hv he hnr hpc hv1 (Or.inr h)
      · have h2 := (pa_parts (c := c) hv1 hwh n hod).1
        exact paWork_no3 pc pk c v ss w hN hz hv he hnr hT hpc hpk hv1 hwh n hn4 hod ha2 (h2.symm.trans hok)
    · exact paWork_no2 pc pk v ss w hN hz hv he hnr hpc hv1 (Or.inl hwh)

set_option maxHeartbeats 4000000 in
set_option maxRecDepth 100000 in
theorem impl_PicAlong (c : Int) (v : Value) (ss : List ByteArray) (w : World) (hN : ss.length ≤ maxLen) (hz : ∀ s ∈ ss, s.size ≤ maxLen) (hv : Sl w v ss) (he : ErrLen w) (hn : NoRes w) (hQ : QvP w) (hT : Tab6 w) :
    Calls Tryd.prog 9 #[.agg #[v], .int .i64 c] w (SaysN (paV ss c) (paOk ss c) w) := by
  obtain ⟨W0, hW0⟩ : ∃ W0, ((w.alloc (.cells #[v] 29)).alloc (.cells #[.int .i64 c] 2)) = W0 := ⟨_, rfl⟩
  have b0 : Below w.heap.size w W0 := by rw [← hW0]; exact Joins.below_alloc2 w _ _
  have h0 : W0.heap[w.heap.size]? = some (.cells #[v] 29 (0, 0)) := by
    rw [← hW0, Below.heap_alloc _ _ _ (by simp)]; exact heap_alloc_last w _
  have h1 : W0.heap[w.heap.size + 1]? = some (.cells #[.int .i64 c] 2 (0, 0)) := by
    rw [← hW0]
    exact heap_alloc2_new _ _ _
  have hmf : ∀ (fn : Fn) (first cap : Array Value) (w : World), (Instr.makeFunc fn first cap).run Tryd.prog w = .ok (.func fn first cap) w := fun _ _ _ _ => rfl
  have B0 := Lib.hid b0
  have HW := Lib.hid hW0
  cases hok : paOk ss c with
  | true =>
    have hwork : ∀ W, Below W0.heap.size W0 W → Calls Tryd.prog 33 #[.pointer (some ⟨w.heap.size, 0, none⟩), .pointer (some ⟨w.heap.size + 1, 0, none⟩)] W (fun e w' => ∃ (ao : Option Addr) (n cap : Nat), e = .returned (.slice ao n cap) ∧ OwnN w' W.heap.size (.slice ao n cap) (paV ss c) ∧ Below W.heap.size W w') := fun W hb => by
      have hbW := b0.trans (hb.mono b0.size)
      have hv1 : validB ss = true := by cases h : validB ss with | true => rfl | false => unfold paOk at hok; rw [h] at hok; cases hok
      have hwh : (row0 ss).size = ss.length := by
        unfold paOk at hok
        simp at hok
        exact hok.2.1
      rcases od_cases (row0 ss).size with h | ⟨n, hn4, hod, ha2⟩
      · unfold paOk at hok
        rw [h] at hok
        simp at hok
      · have h2 := (pa_parts (c := c) hv1 hwh n hod).1
        refine (paWork_yes w.heap.size (w.heap.size + 1) c v ss W hN hz (hv.below hbW) (he.below hbW) (hQ.below hbW) (hT.below hbW) (cell_kept hb (cell_of_one h0)) (cell_kept hb (cell_of_one h1)) hv1 hwh n hn4 hod ha2 (h2.symm.trans hok)).mono ?_
        rintro e w' ⟨u, rfl, hown, hb2⟩
        rcases Joins.ownsRow_forms hown with ⟨rfl, _⟩ | ⟨g, cap, rfl⟩
        · exact ⟨_, _, _, rfl, hown, hb2⟩
        · exact ⟨_, _, _, rfl, hown, hb2⟩
    have C := Lib.hid (attemptNN_yes 33 #[.pointer (some ⟨w.heap.size, 0, none⟩), .pointer (some ⟨w.heap.size + 1, 0, none⟩)] W0 (fun u W w' => OwnN w' W.heap.size u (paV ss c)) call_PA1 hwork)
    obtain ⟨R, hR⟩ : ∃ R, paV ss c = R := ⟨_, rfl⟩
    rw [hR] at C ⊢
    clear hn hQ hT he hok b0 h0 h1 hW0 hwork hR hv hN hz
    go_enter Tryd.func9, Tryd.ntmps9
    go_upto_region 1 with fail
    rw [HW.out]
    go_wp2_with fail
    refine C.out.mono ?_
    rintro e w1 ⟨ao, n, cap, w2, rfl, hQ, hb, rfl, r1, r2⟩
    have hs := B0.out.size
    have hO1 := own_set (u := .slice ao n cap) (OwnN.mono hQ (show w.heap.size ≤ _ by simp only [World.size_alloc]; omega)) r1 (by decide)
    have r3 : (w2.setCell ⟨W0.heap.size, 0, none⟩ (.slice ao n cap)).heap[W0.heap.size + 1]? = some (.cells #[.bool false] 4 (0, 0)) := (Below.heap_setCell _ _ _ _ (by simp)).trans r2
    have HO := Lib.hid (own_set (u := .bool true) hO1 r3 (by decide))
    have HB := Lib.hid (((B0.out.trans (hb.mono hs)).setCell (p := ⟨W0.heap.size, 0, none⟩) hs (.slice ao n cap)).setCell (p := ⟨W0.heap.size + 1, 0, none⟩) (by show w.heap.size ≤ W0.heap.size + 1; omega) (.bool true))
    clear hQ hb r1 r2 r3 hO1
    go_wp2_with fail
    go_ret2
    exact ⟨_, rfl, HO.out, HB.out⟩
  | false =>
    have C := Lib.hid (attemptNN_no 33 #[.pointer (some ⟨w.heap.size, 0, none⟩), .pointer (some ⟨w.heap.size + 1, 0, none⟩)] W0 call_PA1 (fun W hb => paWork_no w.heap.size (w.heap.size + 1) c v ss W hN hz (hv.below (b0.trans (hb.mono b0.size))) (he.below (b0.trans (hb.mono b0.size))) (hn.below (b0.trans (hb.mono b0.size))) (hT.below (b0.trans (hb.mono b0.size))) (cell_kept hb (cell_of_one h0)) (cell_kept hb (cell_of_one h1)) hok))
    have HV : Hid (paV ss c = []) := by show _ = _; unfold paV; rw [if_neg (by rw [hok]; decide)]
    rw [HV.out]
    clear hn hQ hT he hok b0 h0 h1 hW0 HV hv hN hz
    go_enter Tryd.func9, Tryd.ntmps9
    go_upto_region 1 with fail
    rw [HW.out]
    go_wp2_with fail
    refine C.out.mono ?_
    rintro e w1 ⟨rfl, hb⟩
    have HB := Lib.hid (B0.out.trans (hb.mono B0.out.size))
    clear hb
    go_wp2_with fail
    go_ret2
    exact ⟨_, rfl, OwnN.nil _ _, HB.out⟩
end Go.Proofs.YthblhibkbcmbaaaDoor

/- Contracts of single functions, and plain lemmas, on which the exact laws of this seat rest; each holds under the conditions that it states. -/
namespace Go.Proofs.YthblhibkbcmbaaaDoor
set_option linter.unusedVariables false
set_option linter.unusedSimpArgs false
open Go.RowKit

/-! ### a picture comes back from its runs along a curve -/
def qG (S : List (Int × Int)) (f : Nat → Bool) : Nat → (Nat → Nat → Bool)
  | 0 => fun _ _ => false
  | k + 1 => updB (qG S f k) (sY S k) (sX S k) (f k)
def blK (L : List Int) : Nat → Int
  | 0 => 0
  | k + 1 => blK L k + if k % 2 = 1 then L.getD k 0 else 0
def cb1 (f : Nat → Bool) : Nat → Nat
  | 0 => 0
  | k + 1 => cb1 f k + if f k = true then 1 else 0
def cb2 (G : Nat → Nat → Bool) (a : Nat) : Nat → Nat
  | 0 => 0
  | y + 1 => cb2 G a y + cb1 (G y) a
theorem runs_congr (S : List (Int × Int)) (L M : List Int) : ∀ k, (∀ i, i < k → L.getD i 0 = M.getD i 0) → atK L k = atK M k ∧ gK S L k = gK S M k ∧ blK L k = blK M k
  | 0, _ => ⟨rfl, rfl, rfl⟩
  | k + 1, h => by
    obtain ⟨h1, h2, h3⟩ := runs_congr S L M k (fun i hi => h i (by omega))
    have h4 := h k (by omega)
    refine ⟨?_, ?_, ?_⟩
    · show atK L k + _ = atK M k + _
      rw [h1, h4]
    · show ptG S _ (atK L k) _ (gK S L k) = ptG S _ (atK M k) _ (gK S M k)
      rw [h1, h2, h4]
    · show blK L k + _ = blK M k + _
      rw [h3, h4]
theorem incL_at (L : List Int) (p i : Nat) (hp : L.length = p + 1) : (incL L).getD i 0 = if i = p then L.getD p 0 + 1 else L.getD i 0 := by
  unfold incL
  rw [hp, Nat.add_sub_cancel, List.getD_eq_getElem?_getD, List.getD_eq_getElem?_getD, List.getElem?_set]
  by_cases e : i = p
  · subst e
    rw [if_pos rfl, if_pos rfl, if_pos (by omega)]
    simp
  · rw [if_neg (Ne.symm e), if_neg e]
    simp
theorem inc_runs (S : List (Int × Int)) (L : List Int) (p : Nat) (hp : L.length = p + 1) (h0 : 0 ≤ L.getD p 0) :
    atK (incL L) (p + 1) = atK L (p + 1) + 1 ∧ gK S (incL L) (p + 1) = updB (gK S L (p + 1)) (sY S (atK L (p + 1))) (sX S (atK L (p + 1))) (decide (p % 2 = 1)) ∧ blK (incL L) (p + 1) = blK L (p + 1) + if p % 2 = 1 then 1 else 0 := by
  obtain ⟨h1, h2, h3⟩ := runs_congr S (incL L) L p (fun i hi => by rw [incL_at L p i hp, if_neg (by omega)])
  have h4 : (incL L).getD p 0 = L.getD p 0 + 1 := by rw [incL_at L p p hp, if_pos rfl]
  obtain ⟨q, hq⟩ : ∃ q : Nat, L.getD p 0 = (q : Int) := ⟨(L.getD p 0).toNat, by omega⟩
  have e1 : atK L (p + 1) = atK L p + q := by show atK L p + _ = _; rw [hq]; rfl
  refine ⟨?_, ?_, ?_⟩
  · show atK (incL L) p + _ = _
    rw [h1, h4, e1, hq]
    omega
  · show ptG S _ (atK (incL L) p) ((incL L).getD p 0).toNat (gK S (incL L) p) = _
    rw [h1, h2, h4, hq, e1, show ((q : Int) + 1).toNat = q + 1 from by omega]
    show updB (ptG S _ (atK L p) q (gK S L p)) _ _ _ = updB (ptG S _ (atK L p) (L.getD p 0).toNat (gK S L p)) _ _ _
    rw [hq]
    rfl
  · show blK (incL L) p + _ = blK L p + _ + _
    rw [h3, h4]
    by_cases e : p % 2 = 1
    · simp only [if_pos e]; omega
    · simp only [if_neg e]; omega
theorem app_runs (S : List (Int × Int)) (L : List Int) : atK (L ++ [0]) (L.length + 1) = atK L L.length ∧ gK S (L ++ [0]) (L.length + 1) = gK S L L.length ∧ blK (L ++ [0]) (L.length + 1) = blK L L.length := by
  have hg : ∀ i, i < L.length → (L ++ [(0 : Int)]).getD i 0 = L.getD i 0 := fun i hi => by
    rw [List.getD_eq_getElem?_getD, List.getElem?_append_left hi, List.getD_eq_getElem?_getD]
  obtain ⟨h1, h2, h3⟩ := runs_congr S (L ++ [0]) L L.length hg
  have h4 : (L ++ [(0 : Int)]).getD L.length 0 = 0 := by rw [List.getD_eq_getElem?_getD, List.getElem?_append_right (Nat.le_refl _), Nat.sub_self]; rfl
  refine ⟨?_, ?_, ?_⟩
  · show atK (L ++ [0]) L.length + _ = _
    rw [h1, h4]
    rfl
  · show ptG S _ (atK (L ++ [0]) L.length) ((L ++ [(0 : Int)]).getD L.length 0).toNat (gK S (L ++ [0]) L.length) = _
    rw [h2, h4]
    rfl
  · show blK (L ++ [0]) L.length + _ = _
    rw [h3, h4]
    simp
structure RunsOk (S : List (Int × Int)) (f : Nat → Bool) (n : Nat) (L : List Int) : Prop where
  at_ : atK L L.length = n
  g : gK S L L.length = qG S f n
  bl : blK L L.length = (cb1 f n : Int)
  par : decide ((L.length - 1) % 2 = 1) = rnC f n
  pos : ∀ i, 0 < i → i < L.length → 0 < L.getD i 0
  nn : ∀ i, 0 ≤ L.getD i 0
  len : 1 ≤ L.length
theorem runs_ok (S : List (Int × Int)) (f : Nat → Bool) : ∀ n, RunsOk S f n (rnL f n)
  | 0 => ⟨rfl, rfl, rfl, rfl, fun i h1 h2 => by simp [rnL] at h2; omega, fun i => (rnL_at f 0 i).1, by simp [rnL]⟩
  | n + 1 => by
    have ih := runs_ok S f n
    obtain ⟨L, hL⟩ : ∃ L, rnL f n = L := ⟨_, rfl⟩
    rw [hL] at ih
    have hlen := ih.len
    have hcn : rnC f (n + 1) = f n := rfl
    by_cases h : f n = rnC f n
    · obtain ⟨p, hp⟩ : ∃ p, L.length = p + 1 := ⟨L.length - 1, by omega⟩
      obtain ⟨h1, h2, h3⟩ := inc_runs S L p hp (ih.nn p)
      have hpar := ih.par
      rw [hp, Nat.add_sub_cancel] at hpar
      have hat := ih.at_
      have hg := ih.g
      have hbl := ih.bl
      rw [hp] at hat hg hbl
      rw [rnL_same h, hL]
      refine ⟨?_, ?_, ?_, ?_, ?_, ?_, by rw [incL_len]; exact hlen⟩
      · rw [incL_len, hp, h1, hat]
      · rw [incL_len, hp, h2, hg, hat, hpar, ← h]
        rfl
      · rw [incL_len, hp, h3, hbl]
        show _ = ((cb1 f n + _ : Nat) : Int)
        by_cases e : p % 2 = 1
        · have : f n = true := by rw [h, ← hpar]; exact decide_eq_true e
          rw [if_pos e, if_pos this]
          push_cast
          rfl
        · have : ¬ f n = true := by rw [h, ← hpar]; simp [e]
          rw [if_neg e, if_neg this]
          simp
      · rw [incL_len, hp, Nat.add_sub_cancel, hpar, hcn, h]
      · intro i h4 h5
        rw [incL_len] at h5
        rw [incL_at L p i hp]
        split
        · have := ih.nn p
          omega
        · exact ih.pos i h4 h5
      · intro i
        rw [incL_at L p i hp]
        split
        · have := ih.nn p
          omega
        · exact ih.nn i
    · obtain ⟨a1, a2, a3⟩ := app_runs S L
      have hal : (L ++ [(0 : Int)]).length = L.length + 1 := by simp
      have hgz : (L ++ [(0 : Int)]).getD L.length 0 = 0 := by rw [List.getD_eq_getElem?_getD, List.getElem?_append_right (Nat.le_refl _), Nat.sub_self]; rfl
      have hgi : ∀ i, i < L.length → (L ++ [(0 : Int)]).getD i 0 = L.getD i 0 := fun i hi => by
        rw [List.getD_eq_getElem?_getD, List.getElem?_append_left hi, List.getD_eq_getElem?_getD]
      have hnn : ∀ i, 0 ≤ (L ++ [(0 : Int)]).getD i 0 := fun i => by
        by_cases hi : i < L.length
        · rw [hgi i hi]
          exact ih.nn i
        · rcases getD_mem0 (L ++ [(0 : Int)]) i with e | e
          · omega
          · rw [List.getD_eq_getElem?_getD] at e ⊢
            by_cases h9 : i = L.length
            · subst h9
              rw [List.getElem?_append_right (Nat.le_refl _), Nat.sub_self]
              decide
            · rw [List.getElem?_eq_none (by rw [hal]; omega)]
              decide
      obtain ⟨h1, h2, h3⟩ := inc_runs S (L ++ [0]) L.length hal (hnn _)
      rw [rnL_new h, hL]
      have hpar : decide (L.length % 2 = 1) = f n := by
        have h8 := ih.par
        have h9 : decide (L.length % 2 = 1) = !decide ((L.length - 1) % 2 = 1) := by
          rcases Nat.mod_two_eq_zero_or_one L.length with e | e
          · rw [e, show (L.length - 1) % 2 = 1 from by omega]
            rfl
          · rw [e, show (L.length - 1) % 2 = 0 from by omega]
            rfl
        rw [h9, h8]
        revert h
        cases f n <;> cases rnC f n <;> simp
      refine ⟨?_, ?_, ?_, ?_, ?_, ?_, by rw [incL_len, hal]; omega⟩
      · rw [incL_len, hal, h1, a1, ih.at_]
      · rw [incL_len, hal, h2, a2, a1, ih.g, ih.at_, hpar]
        rfl
      · rw [incL_len, hal, h3, a3, ih.bl]
        show _ = ((cb1 f n + _ : Nat) : Int)
        by_cases e : L.length % 2 = 1
        · have : f n = true := by rw [← hpar]; exact decide_eq_true e
          rw [if_pos e, if_pos this]
          push_cast
          rfl
        · have : ¬ f n = true := by rw [← hpar]; simp [e]
          rw [if_neg e, if_neg this]
          simp
      · rw [incL_len, hal, Nat.add_sub_cancel, hpar, hcn]
      · intro i h4 h5
        rw [incL_len, hal] at h5
        rw [incL_at _ L.length i hal]
        split
        · rw [hgz]
          decide
        · rw [hgi i (by omega)]
          exact ih.pos i h4 (by omega)
      · intro i
        rw [incL_at _ L.length i hal]
        split
        · rw [hgz]
          decide
        · exact hnn i
/-- all numbers fit -/
theorem okK_runs (N : Nat) (L : List Int) (hnn : ∀ i, 0 ≤ L.getD i 0) : ∀ m, m ≤ L.length → atK L m ≤ N → okK N L m = true
  | 0, _, _ => rfl
  | m + 1, hm, hN => by
    have e : atK L (m + 1) = atK L m + (L.getD m 0).toNat := rfl
    have h0 := hnn m
    have ih := okK_runs N L hnn m (by omega) (by omega)
    unfold okK
    rw [ih, Bool.true_and]
    simp only [inB, Bool.and_eq_true, decide_eq_true_eq]
    omega
/-- a cell that no spot before has is white -/
theorem qG_out (S : List (Int × Int)) (f : Nat → Bool) (y x : Nat) : ∀ n, (∀ i, i < n → ¬ (y = sY S i ∧ x = sX S i)) → qG S f n y x = false
  | 0, _ => rfl
  | n + 1, h => by
    show updB (qG S f n) (sY S n) (sX S n) (f n) y x = false
    unfold updB
    rw [if_neg (h n (by omega))]
    exact qG_out S f y x n (fun i hi => h i (by omega))
theorem qG_at (S : List (Int × Int)) (f : Nat → Bool) (i : Nat) : ∀ n, i < n → (∀ j, j < n → sY S i = sY S j → sX S i = sX S j → i = j) → qG S f n (sY S i) (sX S i) = f i
  | 0, h, _ => absurd h (Nat.not_lt_zero i)
  | n + 1, h, hd => by
    show updB (qG S f n) (sY S n) (sX S n) (f n) (sY S i) (sX S i) = f i
    unfold updB
    by_cases e : sY S i = sY S n ∧ sX S i = sX S n
    · obtain rfl := hd n (by omega) e.1 e.2
      rw [if_pos ⟨rfl, rfl⟩]
    · rw [if_neg e]
      have hne : i ≠ n := fun e2 => e (by rw [e2]; exact ⟨rfl, rfl⟩)
      exact qG_at S f i n (by omega) (fun j hj => hd j (by omega))
theorem cb1_upd (f g : Nat → Bool) (x : Nat) (hx : f x = false) (hg : ∀ i, g i = if i = x then true else f i) : ∀ k, cb1 g k = cb1 f k + if x < k then 1 else 0
  | 0 => by simp [cb1]
  | k + 1 => by
    have ih := cb1_upd f g x hx hg k
    unfold cb1
    rw [ih, hg k]
    rcases Nat.lt_trichotomy x k with h | h | h
    · have h1 : ¬ k = x := by omega
      have h2 : x < k + 1 := by omega
      simp only [h, h1, h2, if_true, if_false]
      omega
    · subst h
      simp [hx]
    · have h1 : ¬ k = x := by omega
      have h2 : ¬ x < k + 1 := by omega
      have h3 : ¬ x < k := by omega
      simp only [h1, h2, h3, if_false]
      omega
theorem cb1_congr {f g : Nat → Bool} : ∀ k, (∀ i, i < k → f i = g i) → cb1 f k = cb1 g k
  | 0, _ => rfl
  | k + 1, h => by
    unfold cb1
    rw [cb1_congr k (fun i hi => h i (by omega)), h k (by omega)]
theorem cb2_congr {F G : Nat → Nat → Bool} {a : Nat} : ∀ b, (∀ y, y < b → ∀ x, x < a → F y x = G y x) → cb2 F a b = cb2 G a b
  | 0, _ => rfl
  | b + 1, h => by
    unfold cb2
    rw [cb2_congr b (fun y hy => h y (by omega)), cb1_congr a (fun x hx => h b (by omega) x hx)]
theorem cb2_upd (G : Nat → Nat → Bool) (a y x : Nat) (hx : x < a) (h0 : G y x = false) : ∀ b, cb2 (updB G y x true) a b = cb2 G a b + if y < b then 1 else 0
  | 0 => by simp [cb2]
  | b + 1 => by
    have ih := cb2_upd G a y x hx h0 b
    unfold cb2
    rw [ih]
    rcases Nat.lt_trichotomy y b with h | h | h
    · have h2 : y < b + 1 := by omega
      rw [cb1_congr a (f := updB G y x true b) (g := G b) (fun i _ => by unfold updB; rw [if_neg (fun h => by omega)])]
      simp only [h, h2, if_true]
      omega
    · subst h
      rw [cb1_upd (G y) (updB G y x true y) x h0 (fun i => by unfold updB; by_cases e : i = x <;> simp [e]) a]
      simp only [hx, Nat.lt_irrefl, Nat.lt_succ_self, if_true, if_false]
      omega
    · have h2 : ¬ y < b + 1 := by omega
      have h3 : ¬ y < b := by omega
      rw [cb1_congr a (f := updB G y x true b) (g := G b) (fun i _ => by unfold updB; rw [if_neg (fun h => by omega)])]
      simp only [h2, h3, if_false]
      omega
theorem upd_none (G : Nat → Nat → Bool) (y x : Nat) (h0 : G y x = false) : updB G y x false = G := by
  funext y' x'
  unfold updB
  split
  · rename_i h
    rw [h.1, h.2, h0]
  · rfl
/-- the black pixels of what is painted -/
theorem qG_count (S : List (Int × Int)) (f : Nat → Bool) (a : Nat) : ∀ n, (∀ i, i < n → sX S i < a ∧ sY S i < a) → (∀ i j, i < n → j < n → sY S i = sY S j → sX S i = sX S j → i = j) → cb2 (qG S f n) a a = cb1 f n
  | 0, _, _ => by
    have : ∀ b, cb2 (qG S f 0) a b = 0 := by
      intro b
      induction b with
      | zero => rfl
      | succ b ih =>
        unfold cb2
        rw [ih, Nat.zero_add]
        have : ∀ k, cb1 (qG S f 0 b) k = 0 := by
          intro k
          induction k with
          | zero => rfl
          | succ k ihk => unfold cb1; rw [ihk]; simp [qG]
        exact this a
    rw [this a]
    rfl
  | n + 1, h, hd => by
    have ih := qG_count S f a n (fun i hi => h i (by omega)) (fun i j hi hj => hd i j (by omega) (by omega))
    obtain ⟨hx, hy⟩ := h n (by omega)
    have h0 : qG S f n (sY S n) (sX S n) = false := qG_out S f _ _ n (fun i hi e => by
      have := hd n i (by omega) (by omega) e.1 e.2
      omega)
    show cb2 (updB (qG S f n) (sY S n) (sX S n) (f n)) a a = cb1 f n + _
    cases hf : f n with
    | true => rw [cb2_upd _ a _ _ hx h0, if_pos hy, ih]; simp
    | false => rw [upd_none _ _ _ h0, ih]; simp
theorem cbV_mk (a : Nat) (ha : 1 ≤ a ∧ a ≤ 16) (G : Nat → Nat → Bool) : cbV (mkPic a a G) = (cb2 G a a : Int) := by
  have hok := mkPic_valid a a G ha ha
  have V := vp_of hok
  unfold cbV
  rw [if_pos hok, mkPic_len]
  have hw : (row0 (mkPic a a G)).size = a := mkPic_row0 _ _ _ ha.1
  have hb : ∀ y, y < a → ∀ k, k ≤ a → bs (wordsOf (mkPic a a G) y) k = cb1 (G y) k := by
    intro y hy k
    induction k with
    | zero => intro _; rfl
    | succ k ih =>
      intro hk
      rw [bs_succ, ih (by omega)]
      have h1 := words_bit V (k : Int) (y : Int)
      rw [pixI_mk (by omega) hy] at h1
      unfold blackB at h1
      have h2 : hasB (row0 (mkPic a a G)).size (mkPic a a G).length (k : Int) (y : Int) = true := by
        rw [hw, mkPic_len]
        unfold hasB
        simp only [Bool.and_eq_true, decide_eq_true_eq]
        omega
      rw [h2, Bool.true_and] at h1
      have h3 : (wordsOf (mkPic a a G) y).testBit k = G y k := h1
      rw [h3]
      rfl
  have : ∀ b, b ≤ a → rs (wordsOf (mkPic a a G)) b = cb2 G a b := by
    intro b
    induction b with
    | zero => intro _; rfl
    | succ b ih =>
      intro hb2
      rw [rs_succ, ih (by omega), bs_row V, hw, hb b (by omega) a (Nat.le_refl _)]
      rfl
  rw [this a (Nat.le_refl _)]

/-- **the runs of a square picture along a curve: they paint it again** -/
theorem along_back (c n : Nat) (hc : c < 4) (hn : n < 5) (F : Nat → Nat → Bool) : ∀ L, L = rnL (alF c n F) (2 ^ n * 2 ^ n) →
    (∀ y, y < 2 ^ n → ∀ x, x < 2 ^ n → gK (cvF c n) L L.length y x = F y x) ∧ okK (2 ^ n * 2 ^ n) L L.length = true ∧ atK L L.length = 2 ^ n * 2 ^ n ∧ blK L L.length = (cb2 F (2 ^ n) (2 ^ n) : Int) ∧ (∀ i, 0 < i → i < L.length → 0 < L.getD i 0) ∧ (∀ i, 0 ≤ L.getD i 0) := by
  intro L hL
  subst hL
  have R := runs_ok (cvF c n) (alF c n F) (2 ^ n * 2 ^ n)
  obtain ⟨L, hL⟩ : ∃ L, rnL (alF c n F) (2 ^ n * 2 ^ n) = L := ⟨_, rfl⟩
  rw [hL] at R ⊢
  have hs := fun x y hx hy => cv_surj c n hc hn x y hx hy
  have hin : ∀ i, sX (cvF c n) i < 2 ^ n ∧ sY (cvF c n) i < 2 ^ n ∧ (cvF c n).getD i (0, 0) = ((sX (cvF c n) i : Int), (sY (cvF c n) i : Int)) := fun i => by
    obtain ⟨x, y, hx, hy, e⟩ := cvF_in c n i
    unfold sX sY
    rw [e]
    exact ⟨hx, hy, rfl⟩
  have hd : ∀ i j, i < 2 ^ n * 2 ^ n → j < 2 ^ n * 2 ^ n → sY (cvF c n) i = sY (cvF c n) j → sX (cvF c n) i = sX (cvF c n) j → i = j := fun i j hi hj e1 e2 => by
    obtain ⟨k, _, hk⟩ := hs _ _ (hin i).1 (hin i).2.1
    have h1 := (hk i hi).1 (hin i).2.2
    have h2 := (hk j hj).1 (by rw [(hin j).2.2, e1, e2])
    omega
  have hq : ∀ y, y < 2 ^ n → ∀ x, x < 2 ^ n → qG (cvF c n) (alF c n F) (2 ^ n * 2 ^ n) y x = F y x := fun y hy x hx => by
    obtain ⟨i, hi, hk⟩ := hs x y hx hy
    have e := (hk i hi).2 rfl
    have ex : sX (cvF c n) i = x := by unfold sX; rw [e]; rfl
    have ey : sY (cvF c n) i = y := by unfold sY; rw [e]; rfl
    have := qG_at (cvF c n) (alF c n F) i (2 ^ n * 2 ^ n) hi (fun j hj => hd i j hi hj)
    rw [ex, ey] at this
    rw [this]
    unfold alF
    rw [e]
    rfl
  refine ⟨fun y hy x hx => by rw [R.g]; exact hq y hy x hx, okK_runs _ L R.nn L.length (Nat.le_refl _) (by rw [R.at_]; exact Nat.le_refl _), R.at_, ?_, R.pos, R.nn⟩
  rw [R.bl, ← qG_count (cvF c n) (alF c n F) (2 ^ n) (2 ^ n * 2 ^ n) (fun i _ => ⟨(hin i).1, (hin i).2.1⟩) hd, cb2_congr (2 ^ n) hq]
end Go.Proofs.YthblhibkbcmbaaaDoor

/- Contracts of single functions, and plain lemmas, on which the exact laws of this seat rest; each holds under the conditions that it states. -/
namespace Go.Proofs.YthblhibkbcmbaaaDoor
set_option linter.unusedVariables false
set_option linter.unusedSimpArgs false
open Go.RowKit
attribute [local go_sem] Oper.semAt_some

set_option maxHeartbeats 1000000 in
set_option maxRecDepth 100000 in
theorem r8Same_yes (x y : Value) (ss : List ByteArray) (w : World) (hx : Sl w x ss) (hy : Sl w y ss) (h1 : 1 ≤ ss.length) (h16 : ss.length ≤ 16) : Calls Tryd.prog 23 #[.agg #[x], .agg #[y]] w (SaysB true w) := by
  rcases hx with ⟨_, _, _, rfl⟩ | ⟨b, off, cap, rfl, hpos, hb, hc⟩
  · simp at h1
  rcases hy with ⟨_, _, _, rfl⟩ | ⟨b2, off2, cap2, rfl, hpos2, hb2, hc2⟩
  · simp at h1
  obtain ⟨W0, hW0⟩ : ∃ W0, (w.alloc (.cells #[.slice (some ⟨b, off, none⟩) ss.length cap] 29)).alloc (.cells #[.slice (some ⟨b2, off2, none⟩) ss.length cap2] 29) = W0 := ⟨_, rfl⟩
  have hb0 : Below w.heap.size w W0 := by rw [← hW0]; exact Joins.below_alloc2 w _ _
  have hq0 : W0.heap[w.heap.size]? = some (.cells #[.slice (some ⟨b, off, none⟩) ss.length cap] 29 (0, 0)) := by
    rw [← hW0, Below.heap_alloc _ _ _ (by simp)]; exact heap_alloc_last w _
  have hq1 : W0.heap[w.heap.size + 1]? = some (.cells #[.slice (some ⟨b2, off2, none⟩) ss.length cap2] 29 (0, 0)) := by
    rw [← hW0]; exact heap_alloc2_new _ _ _
  have hs0 : W0.heap.size = w.heap.size + 1 + 1 := by rw [← hW0]; simp
  obtain ⟨n, hn⟩ : ∃ n, ss.length = n := ⟨_, rfl⟩
  rw [hn] at hq0 hq1 h1 h16 hc hc2 hW0 ⊢
  have HC : Hid (∀ W k, k < n → Below W0.heap.size W0 W → W.cell? ⟨b, off + k, none⟩ = some (.string (ss.getD k ByteArray.empty)) ∧ W.cell? ⟨b2, off2 + k, none⟩ = some (.string (ss.getD k ByteArray.empty)) ∧ W.cell? ⟨w.heap.size, 0, none⟩ = some (.slice (some ⟨b, off, none⟩) n cap) ∧ W.cell? ⟨w.heap.size + 1, 0, none⟩ = some (.slice (some ⟨b2, off2, none⟩) n cap2)) := fun W k hk hbl =>
    ⟨((hb0.trans (hbl.mono hb0.size)).cell (p := ⟨b, off + k, none⟩) hb).trans (hc k hk), ((hb0.trans (hbl.mono hb0.size)).cell (p := ⟨b2, off2 + k, none⟩) hb2).trans (hc2 k hk), cell_of_one ((hbl.block _ (by omega)).trans hq0), cell_of_one ((hbl.block _ (by omega)).trans hq1)⟩
  have HW := Lib.hid hW0
  have HB := Lib.hid hb0
  clear hq0 hq1 hc hc2 hb hb2 hW0 hb0 hs0 hn hpos hpos2
  go_enter Tryd.func23, Tryd.ntmps23
  go_wp2_with fail
  rw [HW.out]
  go_loopw [5] (fun i wr => ∃ k : Nat, k ≤ n ∧ i = .int .i64 k ∧ Hid (Below W0.heap.size W0 wr)) (fun i _ => n - (intOf i).toNat)
  case atStart => exact ⟨0, Nat.zero_le _, rfl, Lib.hid (Below.refl _ _)⟩
  case round =>
    obtain ⟨k, hk, rfl, hbel⟩ := hrel
    by_cases hlt : k < n
    · obtain ⟨c0, c1, c2, c3⟩ := HC.out _ k hlt hbel.out
      obtain ⟨s, hs⟩ : ∃ s, ss.getD k ByteArray.empty = s := ⟨_, rfl⟩
      rw [hs] at c0 c1
      have k0 : (0 : Int) ≤ (k : Int) := by omega
      have k1 : (k : Int) < (n : Int) := by omega
      clear hs
      go_wp2
      go_quiet (fail)
      go_wp2
      go_roundw
      case rel => exact ⟨k + 1, by omega, by go_num, Lib.hid (⟨hbel.out.os, hbel.out.tape, hbel.out.output, hbel.out.size, hbel.out.block⟩)⟩
      case measure => simp [intOf]; omega
    · obtain rfl : n = k := by omega
      obtain ⟨c0, c1, c2, c3⟩ := HC.out _ (n - 1) (by omega) hbel.out
      have h0 : 0 < n := by omega
      go_wp2
      go_ret
      exact ⟨rfl, HB.out.trans (hbel.out.mono HB.out.size)⟩

set_option maxHeartbeats 2000000 in
set_option maxRecDepth 100000 in
theorem R8Sized_any (v : Value) (ns : List Nat) (sd2 : Nat) (w : World) (hv : SlY w v ns) (hby : ∀ i, ns.getD i 0 < 256) (hN : ns.length ≤ maxLen) (hs : 1 ≤ sd2 ∧ sd2 ≤ 16) :
    Calls Tryd.prog 21 #[v, .int .i64 (sd2 : Int)] w (SomePic sd2 sd2 w) := by
  have hbA := Joins.below_alloc1 w (.cells #[.slice none 0 0] 29)
  have hpA := heap_alloc_last w (.cells #[.slice none 0 0] 29)
  obtain ⟨W0, hW0⟩ : ∃ W0, w.alloc (.cells #[.slice none 0 0] 29) = W0 := ⟨_, rfl⟩
  have hs0 : W0.heap.size = w.heap.size + 1 := by rw [← hW0]; simp
  rw [hW0] at hbA hpA
  have CF := Lib.hid (from_any v ns W0 (hv.below hbA) hby hN)
  have HW := Lib.hid hW0
  obtain ⟨ao, cap0, rfl⟩ := hv.form
  clear hv hW0 hby
  go_enter Tryd.func21, Tryd.ntmps21
  go_wp2_with fail
  rw [HW.out]
  refine CF.out.mono ?_
  rintro e wB ⟨rfl, hS, hb⟩
  have hpB : wB.heap[w.heap.size]? = some (.cells #[.slice none 0 0] 29 (0, 0)) := (hb.block _ (by omega)).trans hpA
  have hbB := hbA.trans (hb.mono (by omega))
  obtain ⟨p, hp⟩ : ∃ p, W0.heap.size = p := ⟨_, rfl⟩
  rw [hp] at hS ⊢
  have hpw : w.heap.size < p := by omega
  have HS := Lib.hid hS
  have HPB := Lib.hid hpB
  have HBB := Lib.hid hbB
  have HDr := Lib.hid (l02Square_any sd2 p (.slice ao ns.length cap0) ns 0 wB HS.out hs (by omega))
  clear hS hb hpA hbA hs0 hp CF hpB hbB
  go_wp2_with fail
  refine HDr.out.mono ?_
  rintro e wE ⟨f, g, cap, rfl, hown, hsE, hfE⟩
  have hl3 := HBB.out.size
  have hp3 := hfE.cells HPB.out (Or.inl hpw)
  have hfr := free_of_one hp3
  have hcE := cell_of_one hp3
  have HB := Lib.hid (((hfE.bel HBB.out (Or.inl (by omega)) (Nat.le_refl _))).setCell (p := ⟨w.heap.size, 0, none⟩) (Nat.le_refl _) (.slice (some ⟨g, 0, none⟩) sd2 cap))
  have HO := Lib.hid (Joins.ownsRow_le (own_set (u := .slice (some ⟨g, 0, none⟩) sd2 cap) hown hp3 (by decide)) (show w.heap.size ≤ wB.heap.size by omega))
  have HPo : Hid ((wE.setCell ⟨w.heap.size, 0, none⟩ (.slice (some ⟨g, 0, none⟩) sd2 cap)).cell? ⟨w.heap.size, 0, none⟩ = some (.slice (some ⟨g, 0, none⟩) sd2 cap)) := cell_of_one (one_setCell hp3)
  clear hown hsE hfE hp3
  go_wp2_with fail
  exact bodyPost_ret (v := .agg #[.slice (some ⟨g, 0, none⟩) sd2 cap]) (by simp [results, Tryd.results21, go_sem, HPo.out]) rfl ⟨f, g, cap, rfl, HO.out, HB.out⟩
end Go.Proofs.YthblhibkbcmbaaaDoor

/- Contracts of single functions, and plain lemmas, on which the exact laws of this seat rest; each holds under the conditions that it states. -/
namespace Go.Proofs.YthblhibkbcmbaaaDoor
set_option linter.unusedVariables false
set_option linter.unusedSimpArgs false
open Go.RowKit
attribute [local go_sem] Oper.semAt_some

theorem mem_sizeA {ss : List ByteArray} (hok : validB ss = true) : ∀ s ∈ ss, s.size ≤ maxLen := by
  have V := vp_of hok
  intro s hs
  obtain ⟨j, hj, rfl⟩ := List.getElem_of_mem hs
  have h1 := (V.rows j hj).1
  have h2 := V.w16
  rw [List.getD_eq_getElem?_getD, List.getElem?_eq_getElem hj] at h1
  have h3 : (ss[j]'hj).size = (row0 ss).size := h1
  unfold maxLen; omega
theorem len_maxA {ss : List ByteArray} (hok : validB ss = true) : ss.length ≤ maxLen := by
  have := (vp_of hok).n16
  unfold maxLen; omega
theorem atK_mono (L : List Int) : ∀ d k, atK L k ≤ atK L (k + d)
  | 0, k => Nat.le_refl _
  | d + 1, k => Nat.le_trans (atK_mono L d k) (Nat.le_add_right _ _)
theorem blK_bd (L : List Int) (hnn : ∀ i, 0 ≤ L.getD i 0) : ∀ k, 0 ≤ blK L k ∧ blK L k ≤ (atK L k : Int)
  | 0 => ⟨Int.le_refl _, Int.le_refl _⟩
  | k + 1 => by
    have ih := blK_bd L hnn k
    have h0 := hnn k
    have e1 : blK L (k + 1) = blK L k + if k % 2 = 1 then L.getD k 0 else 0 := rfl
    have e2 : atK L (k + 1) = atK L k + (L.getD k 0).toNat := rfl
    rw [e1, e2]
    split <;> (push_cast; omega)

set_option maxHeartbeats 8000000 in
set_option maxRecDepth 100000 in
theorem law_FnAlong (v0 v1 : Value) (ns ms : List Nat) (w : World) (hv0 : SlY w v0 ns) (hv1 : SlY w v1 ms) (hby0 : ∀ i, ns.getD i 0 < 256) (hby1 : ∀ i, ms.getD i 0 < 256) (he : ErrLen w) (hN : NoRes w) (hQ : QvP w) (hT : Tab6 w) :
    Calls Tryd.prog 5 #[v0, v1] w fun e w' => e = .returned (.bool true) ∧ Below w.heap.size w w' := by
  have CL := Lib.hid (r8Long_any v0 v1 ns ms w hv0 hv1)
  cases hl : (decide (48 < ns.length) || decide (48 < ms.length)) with
  | true =>
    rw [hl] at CL
    obtain ⟨ao, cap, rfl⟩ := hv0.form
    obtain ⟨ao1, cap1, rfl⟩ := hv1.form
    clear hv0 hv1 hN hQ hl he hT hby0 hby1
    go_enter Tryd.func5, Tryd.ntmps5
    go_wp2_with fail
    refine CL.out.mono ?_
    rintro e w' ⟨rfl, rfl⟩
    go_wp2_with fail
    go_ret
    exact ⟨rfl, Below.refl _ _⟩
  | false =>
    rw [hl] at CL
    have hl2 : ns.length ≤ 48 ∧ ms.length ≤ 48 := by simp at hl; omega
    have CA0 := Lib.hid (r8At_any v1 ms 0 5 w hv1 hby1 (by unfold maxLen; omega) (by omega) (by omega))
    have CA1 := Lib.hid (r8At_any v1 ms 1 4 w hv1 hby1 (by unfold maxLen; omega) (by omega) (by omega))
    have ho := r8F_lt ms 0 5 (by omega)
    have hc := r8F_lt ms 1 4 (by omega)
    obtain ⟨o, hoo⟩ : ∃ o : Nat, r8F ms 0 5 = (o : Int) := ⟨(r8F ms 0 5).toNat, by omega⟩
    obtain ⟨c, hcc⟩ : ∃ c : Nat, r8F ms 1 4 = (c : Int) := ⟨(r8F ms 1 4).toNat, by omega⟩
    have CA0' : Hid (Calls Tryd.prog 20 #[v1, .int .i64 0, .int .i64 5] w (fun e w' => e = .returned (.int .i64 (o : Int)) ∧ w = w')) := by rw [← hoo]; exact CA0
    have CA1' : Hid (Calls Tryd.prog 20 #[v1, .int .i64 1, .int .i64 4] w (fun e w' => e = .returned (.int .i64 (c : Int)) ∧ w = w')) := by rw [← hcc]; exact CA1
    have ho5 : o < 5 := by omega
    have hc4 : c < 4 := by omega
    clear CA0 CA1 hoo hcc ho hc
    have hs16 : 1 ≤ 2 ^ o ∧ 2 ^ o ≤ 16 := ⟨Nat.one_le_two_pow, pow_le16 (by omega)⟩
    have kc1 : IntKind.u64.wrap (o : Int) = (o : Int) := IntWalk.u64_in _ (by omega)
    have ks0 : wrap64 (2 ^ o) = ((2 ^ o : Nat) : Int) := by
      rcases (by omega : o = 0 ∨ o = 1 ∨ o = 2 ∨ o = 3 ∨ o = 4) with rfl | rfl | rfl | rfl | rfl <;> decide +kernel
    have hod : odV ((2 ^ o : Nat) : Int) = (o : Int) := odV_sd o (by omega) _ (l08_side o (by omega))
    have C8 := Lib.hid (R8Sized_any v0 ns (2 ^ o) w hv0 hby0 (by unfold maxLen; omega) hs16)
    unfold SomePic at C8
    have HPA : Hid (∀ (f : Nat → Nat → Bool) (u : Value) (W : World), Sl W u (mkPic (2 ^ o) (2 ^ o) f) → Below w.heap.size w W → Calls Tryd.prog 9 #[.agg #[u], .int .i64 (c : Int)] W (SaysN (rnL (alF c o f) (2 ^ o * 2 ^ o)) true W)) := fun f u W hu hb => by
      have hok := mkPic_valid (2 ^ o) (2 ^ o) f hs16 hs16
      have hr : (row0 (mkPic (2 ^ o) (2 ^ o) f)).size = 2 ^ o := mkPic_row0 _ _ _ hs16.1
      have hln : (mkPic (2 ^ o) (2 ^ o) f).length = 2 ^ o := mkPic_len _ _ _
      have := impl_PicAlong (c : Int) u (mkPic (2 ^ o) (2 ^ o) f) W (len_maxA hok) (mem_sizeA hok) hu (he.below hb) (hN.below hb) (hQ.below hb) (hT.below hb)
      obtain ⟨p1, p2⟩ := pa_parts (c := (c : Int)) hok (by rw [hr, hln]) o (by rw [hr]; exact hod)
      have hcb : inB (c : Int) 0 3 = true := by simp [inB]; omega
      rw [p1, hcb] at this
      unfold paV at this
      rw [if_pos (p1.trans hcb), p2, Int.toNat_natCast, alF_mk] at this
      exact this
    have HPF : Hid (∀ (f : Nat → Nat → Bool) (u : Value) (W : World), SlN W u (rnL (alF c o f) (2 ^ o * 2 ^ o)) → Below w.heap.size w W → Calls Tryd.prog 17 #[.int .i64 (c : Int), .int .i64 (o : Int), u] W (SaysPic (mkPic (2 ^ o) (2 ^ o) f) true W)) := fun f u W hu hb => by
      obtain ⟨b1, b2, b3, b4, b5, b6⟩ := along_back c o hc4 ho5 f _ rfl
      have hlen := (rnL_len (alF c o f) (2 ^ o * 2 ^ o)).2
      have h256 : 2 ^ o * 2 ^ o ≤ 256 := Nat.mul_le_mul hs16.2 hs16.2
      have := impl_PF (c : Int) (o : Int) u _ W (by omega) hu (hN.below hb) (hQ.below hb)
      have hal : alF c o (gK (cvF c o) (rnL (alF c o f) (2 ^ o * 2 ^ o)) (rnL (alF c o f) (2 ^ o * 2 ^ o)).length) = alF c o f := by
        funext i
        obtain ⟨x, y, hx, hy, e⟩ := cvF_in c o i
        unfold alF
        rw [e]
        exact b1 y hy x hx
      have hok : pfOk (c : Int) (o : Int) (rnL (alF c o f) (2 ^ o * 2 ^ o)) = true := by
        unfold pfOk pfN pfG
        have ht : (inB (c : Int) 0 3 && inB (o : Int) 0 4) = true := by simp [inB]; omega
        rw [ht, Bool.true_and, Bool.and_eq_true, decide_eq_true_eq]
        exact ⟨b2, congrArg (fun g => rnL g (2 ^ o * 2 ^ o)) hal⟩
      have hv : pfV (c : Int) (o : Int) (rnL (alF c o f) (2 ^ o * 2 ^ o)) = mkPic (2 ^ o) (2 ^ o) f := by
        unfold pfV
        rw [if_pos hok]
        unfold pfG
        simp only [Int.toNat_natCast]
        exact mkPic_congr b1
      rw [hok, hv] at this
      exact this
    have HCB : Hid (∀ (f : Nat → Nat → Bool) (u : Value) (W : World), Sl W u (mkPic (2 ^ o) (2 ^ o) f) → Below w.heap.size w W → Calls Tryd.prog 22 #[.agg #[u]] W (SaysIB (cb2 f (2 ^ o) (2 ^ o) : Int) true W)) := fun f u W hu hb => by
      have hok := mkPic_valid (2 ^ o) (2 ^ o) f hs16 hs16
      have hln : (mkPic (2 ^ o) (2 ^ o) f).length = 2 ^ o := mkPic_len _ _ _
      have := impl_Count u _ W (len_maxA hok) (mem_sizeA hok) hu (he.below hb)
      rw [hok, cbV_mk _ hs16] at this
      exact this
    have HSame : Hid (∀ (f : Nat → Nat → Bool) (x y : Value) (W : World), Sl W x (mkPic (2 ^ o) (2 ^ o) f) → Sl W y (mkPic (2 ^ o) (2 ^ o) f) → Calls Tryd.prog 23 #[.agg #[x], .agg #[y]] W (fun e w' => e = .returned (.bool true) ∧ Below W.heap.size W w')) := fun f x y W hx hy => by
      have hln : (mkPic (2 ^ o) (2 ^ o) f).length = 2 ^ o := mkPic_len _ _ _
      exact r8Same_yes x y _ W hx hy (by rw [hln]; exact hs16.1) (by rw [hln]; exact hs16.2)
    have HBk := Lib.hid (fun f => along_back c o hc4 ho5 f _ rfl)
    have HLn := Lib.hid (fun f => rnL_len (alF c o f) (2 ^ o * 2 ^ o))
    obtain ⟨ao, cap, rfl⟩ := hv0.form
    obtain ⟨ao1, cap1, rfl⟩ := hv1.form
    have HPl : Hid (∀ f, (mkPic (2 ^ o) (2 ^ o) f).length = 2 ^ o) := fun f => mkPic_len _ _ _
    unfold SaysN at HPA
    unfold SaysPic at HPF
    unfold SaysIB at HCB
    clear hv0 hv1 hby0 hby1 he hN hQ hT hl hl2 hod hc4
    have km : ((2 ^ o : Nat) : Int) * ((2 ^ o : Nat) : Int) = ((2 ^ o * 2 ^ o : Nat) : Int) := by push_cast; rfl
    have h256 : 2 ^ o * 2 ^ o ≤ 256 := Nat.mul_le_mul hs16.2 hs16.2
    obtain ⟨sd2, hsd⟩ : ∃ s, 2 ^ o = s := ⟨_, rfl⟩
    rw [hsd] at hs16 ks0 C8 HPA HPF HCB HSame HBk HLn HPl km h256
    obtain ⟨N, hNN⟩ : ∃ n, sd2 * sd2 = n := ⟨_, rfl⟩
    rw [hNN] at HPA HPF HBk HLn km h256
    have kmw : IntKind.i64.wrap ((sd2 : Int) * (sd2 : Int)) = (N : Int) := by rw [km]; exact IntWalk.i64_in _ (by omega)
    have Kmw := Lib.hid kmw
    clear hsd hNN km kmw
    go_enter Tryd.func5, Tryd.ntmps5
    go_wp2_with fail
    refine CL.out.mono ?_
    rintro e w ⟨rfl, rfl⟩
    go_wp2_with fail
    refine CA0'.out.mono ?_
    rintro e w ⟨rfl, rfl⟩
    go_wp2_with fail
    refine CA1'.out.mono ?_
    rintro e w ⟨rfl, rfl⟩
    go_upto_region 6 with fail
    rw [ks0]
    clear ks0 kc1
    go_wp2_with fail
    refine C8.out.mono ?_
    rintro e w1 ⟨f, g1, cap2, rfl, hown1, hb1⟩
    have hbA := Joins.below_alloc1 w1 (.cells #[.slice (some ⟨g1, 0, none⟩) sd2 cap2] 29)
    have HV := Lib.hid (PV.new (OwnP.sl hown1))
    have HB1 := Lib.hid (hb1.trans (hbA.mono hb1.size))
    obtain ⟨x, hx⟩ : ∃ x, Value.slice (some ⟨g1, 0, none⟩) sd2 cap2 = x := ⟨_, rfl⟩
    obtain ⟨W1, hW1⟩ : ∃ W1, w1.alloc (.cells #[.slice (some ⟨g1, 0, none⟩) sd2 cap2] 29) = W1 := ⟨_, rfl⟩
    rw [hW1] at HV HB1
    have HW1 := Lib.hid hW1
    clear hown1 hb1 hbA hW1 C8 CL CA0' CA1' hx
    go_upto_region 7 with fail
    rw [HW1.out]
    have x1 := HV.out.cell
    go_wp2_with fail
    refine (HPA.out f _ _ HV.out.sl HB1.out).mono ?_
    rintro e w2 ⟨v9, rfl, hown2, hb2⟩
    clear x1
    have HV2 := Lib.hid (HV.out.below hb2)
    have HB2 := Lib.hid (HB1.out.trans (hb2.mono HB1.out.size))
    have HN2 := Lib.hid (OwnN.sl hown2)
    have hl1 := (HLn.out f).1
    have hl2 := (HLn.out f).2
    obtain ⟨ao9, cap9, rfl⟩ := HN2.out.form
    obtain ⟨B1, B2, B3, B4, B5, B6⟩ := HBk.out f
    have HPFf := Lib.hid (fun u W h hb => HPF.out f u W h hb)
    obtain ⟨L, hL⟩ : ∃ L, rnL (alF c o f) N = L := ⟨_, rfl⟩
    rw [hL] at HN2 HPFf hl1 hl2 B2 B3 B4 B5 B6 ⊢
    have Hat := Lib.hid B3
    have Hbl := Lib.hid B4
    have Hpos := Lib.hid B5
    have Hnn := Lib.hid B6
    have HAb : Hid (∀ k, k ≤ L.length → atK L k ≤ N) := fun k hk => by
      have := atK_mono L (L.length - k) k
      rw [show k + (L.length - k) = L.length from by omega, B3] at this
      exact this
    have HBb := Lib.hid (blK_bd L B6)
    clear hown2 hb2 hL B1 B2 B3 B4 B5 B6 HV HB1 HBk HPF HPA HLn
    go_wp2_with fail
    refine (HPFf.out _ _ HN2.out HB2.out).mono ?_
    rintro e w3 ⟨ao3, n3, cap3, rfl, hown3, hb3⟩
    have HV3 := Lib.hid ((HV2.out.below hb3).alloc (.cells #[.slice ao3 n3 cap3] 29))
    have HT3 := Lib.hid (PV.new (OwnP.sl hown3))
    have hbA := Joins.below_alloc1 w3 (.cells #[.slice ao3 n3 cap3] 29)
    have HN3 := Lib.hid ((HN2.out.below hb3).below hbA)
    have HB3 := Lib.hid ((HB2.out.trans (hb3.mono HB2.out.size)).trans (hbA.mono (Nat.le_trans HB2.out.size hb3.size)))
    obtain ⟨W3, hW3⟩ : ∃ W3, w3.alloc (.cells #[.slice ao3 n3 cap3] 29) = W3 := ⟨_, rfl⟩
    rw [hW3] at HV3 HT3 HN3 HB3
    have HW3 := Lib.hid hW3
    clear hown3 hb3 hbA hW3 HV2 HB2 HN2
    go_upto_region 9 with fail
    rw [HW3.out]
    have x1 := HV3.out.cell
    go_wp2_with fail
    refine (HCB.out f _ _ HV3.out.sl HB3.out).mono ?_
    rintro e w4 ⟨rfl, hb4⟩
    have HV4 := Lib.hid (HV3.out.below hb4)
    have HT4 := Lib.hid (HT3.out.below hb4)
    have HN4 := Lib.hid (HN3.out.below hb4)
    have HB4 := Lib.hid (HB3.out.trans (hb4.mono HB3.out.size))
    clear hb4 x1 HV3 HT3 HN3 HB3
    have x1 := HV4.out.cell
    have x3 := HT4.out.cell
    go_wp2_with fail
    refine (HSame.out f _ _ _ HT4.out.sl HV4.out.sl).mono ?_
    rintro e w5 ⟨rfl, hb5⟩
    have HN5 := Lib.hid (HN4.out.below hb5)
    have HB5 := Lib.hid (HB4.out.trans (hb5.mono HB4.out.size))
    clear hb5 x1 x3 HV4 HT4 HN4 HB4
    obtain ⟨m, hm⟩ : ∃ m, L.length = m := ⟨_, rfl⟩
    rcases HN5.out with ⟨_, _, _, e0⟩ | ⟨b, off, c9, e9, _, hbl, hcell⟩
    · rw [e0] at hl1
      simp at hl1
    injection e9 with e1 _ _
    subst e1
    rw [hm] at Hat Hbl Hpos HAb hl1 hl2 hcell ⊢
    have HC := Lib.hid hcell
    have Hm := Lib.hid hm
    clear hcell hm HN5
    go_wp2_with fail
    go_loopw [15, 16, 17] (fun av bv kv wr => ∃ k : Nat, k ≤ m ∧ kv = .int .i64 (k : Int) ∧ av = .int .i64 ((atK L k : Nat) : Int) ∧ bv = .int .i64 (blK L k) ∧ Hid (Below w5.heap.size w5 wr)) (fun _ _ kv _ => m - (intOf kv).toNat)
    case atStart => exact ⟨0, Nat.zero_le _, rfl, rfl, rfl, Lib.hid (Below.refl _ _)⟩
    case round =>
      obtain ⟨k, hk, rfl, rfl, rfl, HB⟩ := hrel
      by_cases hlt : k < m
      · have kk : (k : Int) < (m : Int) := by omega
        have kk0 : (0 : Int) ≤ (k : Int) := by omega
        have hcell := cell_kept HB.out (HC.out k hlt)
        have hblw : b < wr.heap.size := Nat.lt_of_lt_of_le hbl HB.out.size
        have hnn := Hnn.out k
        have ha1 := HAb.out (k + 1) (by omega)
        have hb1 := HBb.out k
        have ea : atK L (k + 1) = atK L k + (L.getD k 0).toNat := rfl
        have eb : blK L (k + 1) = blK L k + if k % 2 = 1 then L.getD k 0 else 0 := rfl
        have hp := Hpos.out k
        obtain ⟨x, hx⟩ : ∃ x, L.getD k 0 = x := ⟨_, rfl⟩
        obtain ⟨a, ha⟩ : ∃ a, atK L k = a := ⟨_, rfl⟩
        obtain ⟨q, hq⟩ : ∃ a, blK L k = a := ⟨_, rfl⟩
        obtain ⟨a2, ha2⟩ : ∃ a, atK L (k + 1) = a := ⟨_, rfl⟩
        obtain ⟨q2, hq2⟩ : ∃ a, blK L (k + 1) = a := ⟨_, rfl⟩
        rw [hx] at hcell hnn ea eb hp
        rw [ha] at ea hb1 ⊢
        rw [hq] at eb hb1 ⊢
        rw [ha2] at ea ha1
        rw [hq2] at eb
        have HA2 := Lib.hid ha2
        have HQ2 := Lib.hid hq2
        have ka : IntKind.i64.wrap ((a : Int) + x) = (a2 : Int) := by rw [show (a : Int) + x = (a2 : Int) from by omega]; exact IntWalk.i64_in _ (by omega)
        have kneg : ¬ x < 0 := by omega
        obtain ⟨r, pb, kt, kb, hpb⟩ := tmod_cases k
        cases pb with
        | true =>
          have hodd : k % 2 = 1 := of_decide_eq_true hpb.symm
          rw [if_pos hodd] at eb
          have kq : IntKind.i64.wrap (q + x) = q2 := by rw [← eb]; exact IntWalk.i64_in _ (by omega)
          have kpos : (0 : Int) < (k : Int) := by omega
          have kz : ¬ x = 0 := by have := hp (by omega) hlt; omega
          clear hx ha hq ha2 hq2 ea eb hp ha1 hb1 hnn hodd hpb
          go_wp2
          go_roundw
          case rel => exact ⟨k + 1, by omega, by go_num, by rw [HA2.out], by rw [HQ2.out], HB⟩
          case measure => simp [intOf]; omega
        | false =>
          have hev : ¬ k % 2 = 1 := of_decide_eq_false hpb.symm
          rw [if_neg hev, Int.add_zero] at eb
          subst eb
          by_cases hk0 : 0 < k
          · have kpos : (0 : Int) < (k : Int) := by omega
            have kz : ¬ x = 0 := by have := hp hk0 hlt; omega
            clear hx ha hq ha2 hq2 ea hp ha1 hb1 hnn hev hpb
            go_wp2
            go_roundw
            case rel => exact ⟨k + 1, by omega, by go_num, by rw [HA2.out], by rw [HQ2.out], HB⟩
            case measure => simp [intOf]; omega
          · have kpos : ¬ (0 : Int) < (k : Int) := by omega
            clear hx ha hq ha2 hq2 ea hp ha1 hb1 hnn hev hpb
            go_wp2
            go_roundw
            case rel => exact ⟨k + 1, by omega, by go_num, by rw [HA2.out], by rw [HQ2.out], HB⟩
            case measure => simp [intOf]; omega
      · obtain rfl : k = m := by omega
        have HB9 := Lib.hid (HB5.out.trans (HB.out.mono HB5.out.size))
        rw [Hat.out, Hbl.out]
        have kmw := Kmw.out
        go_wp2
        go_ret
        exact ⟨rfl, HB9.out⟩
end Go.Proofs.YthblhibkbcmbaaaDoor
