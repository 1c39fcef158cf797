/- Contracts of single functions, and plain lemmas, on which the exact laws of this seat rest; each holds under the conditions that it states. -/
import Derived.Test.YtdeagfmldpociaaDoorCVH
namespace Go.Proofs.YtdeagfmldpociaaDoor
set_option linter.unusedVariables false
set_option linter.unusedSimpArgs false
open Go.RowKit
attribute [local go_sem] Oper.semAt_some

set_option maxHeartbeats 2000000 in
set_option maxRecDepth 100000 in
theorem long1_yes (pc pn : Nat) (c n : Int) (w : World) (h0 : w.cell? ⟨pc, 0, none⟩ = some (.int .i64 c)) (h1 : w.cell? ⟨pn, 0, none⟩ = some (.int .i64 n)) (hQ : QvP w) (hok : (inB c 0 3 && inB n 0 4) = true) :
    Calls Tryd.prog 66 #[.pointer (some ⟨pc, 0, none⟩), .pointer (some ⟨pn, 0, none⟩)] w (fun e w' => e = .returned (.int .i64 (ljV c n)) ∧ Below w.heap.size w w') := by
  have e1 : ljV c n = mxJ (cvF c.toNat n.toNat) ((cvF c.toNat n.toNat).length - 1) := by unfold ljV; rw [if_pos hok]
  have ht2 : inB c 0 3 = true ∧ inB n 0 4 = true := by simpa using hok
  have CT := Lib.hid (fun W => requiredTour_yes c n W ht2.1 ht2.2)
  obtain ⟨c', n', rfl, rfl, hc4, hn4⟩ := tour_nat hok
  rw [e1]
  simp only [Int.toNat_natCast]
  have CX : Hid (∀ W, Below w.heap.size w W → Calls Tryd.prog 63 #[.agg #[.int .i64 (c' : Int), .int .i64 (n' : Int)]] W (TookSpots W (cvF c' n'))) := fun W hb => spots_made c' n' W hc4 hn4 (hQ.below hb)
  have HSm := cvF_small c' n' hn4
  have hlen := cvF_len c' n'
  have h1p : 1 ≤ 2 ^ n' * 2 ^ n' := Nat.mul_le_mul (Nat.one_le_two_pow) (Nat.one_le_two_pow)
  have h256 : 2 ^ n' * 2 ^ n' ≤ 256 := Nat.mul_le_mul (pow_le16 hn4) (pow_le16 hn4)
  obtain ⟨L, hL⟩ : ∃ L, cvF c' n' = L := ⟨_, rfl⟩
  rw [hL] at CX HSm hlen ⊢
  have CJ : Hid (∀ (g cap : Nat) (W : World), Spots W g L → Calls Tryd.prog 67 #[.slice (some ⟨g, 0, none⟩) L.length cap] W (fun e w' => ∃ v, e = .returned v ∧ OwnN w' W.heap.size v (jl L (L.length - 1)) ∧ Below W.heap.size W w')) := fun g cap W hS => jumps_any g cap L W hS HSm (by omega) (by omega)
  have HMx : Hid (∀ k, mxJ L (k + 1) = max (mxJ L k) (jmp L k)) := fun _ => rfl
  have HM0 : Hid (mxJ L 0 = 0) := rfl
  unfold TookSpots at CX
  obtain ⟨M, hM⟩ : ∃ M, L.length - 1 = M := ⟨_, rfl⟩
  rw [hM] at CJ ⊢
  have M256 : M ≤ 256 := by omega
  have HLm := Lib.hid (jl_len L M)
  have HLa := Lib.hid (fun i (hi : i < M) => jl_at L M i hi)
  clear e1 hok ht2 hc4 hn4 hlen h1p h256 hL HSm hQ hM
  go_enter Tryd.func66, Tryd.ntmps66
  go_wp2_with fail
  refine (CT.out _).mono ?_
  rintro e w1 ⟨rfl, hb1⟩
  have B1 := Lib.hid hb1
  clear hb1 h0 h1
  go_wp2_with fail
  refine (CX.out _ B1.out).mono ?_
  rintro e w2 ⟨g, cap, rfl, hown, hb2⟩
  have HS := Lib.hid (OwnS.spots hown)
  have B2 := Lib.hid (B1.out.trans (hb2.mono B1.out.size))
  clear hown hb2
  go_wp2_with fail
  refine (CJ.out _ _ _ HS.out).mono ?_
  rintro e w3 ⟨v, rfl, hown, hb3⟩
  have B3 := Lib.hid (B2.out.trans (hb3.mono B2.out.size))
  clear hb3
  rcases Joins.ownsRow_forms hown with ⟨rfl, hz⟩ | ⟨r, rc, rfl⟩
  · rw [HLm.out] at hz
    subst hz
    have HV : Hid (mxJ L 0 = 0) := HM0.out
    clear hown CX CJ CT
    go_wp2_with fail
    refine wp_loop_rounds 1 ?_; rw [rounds_succ]
    go_wp2
    go_ret
    exact ⟨ret_int HV.out.symm, B3.out⟩
  · rw [HLm.out]
    have HC : Hid (∀ i, i < M → w3.cell? ⟨r, i, none⟩ = some (.int .i64 (jmp L i))) := fun i hi => by
      have := World.ownsRow.cellAt hown i (by rw [HLm.out]; omega)
      rw [this]
      unfold numsV
      rw [List.getElem?_map]
      have hl : i < (jl L M).length := by rw [HLm.out]; exact hi
      rw [List.getElem?_eq_getElem hl]
      have h2 := HLa.out i hi
      rw [List.getD_eq_getElem?_getD, List.getElem?_eq_getElem hl] at h2
      simp only [Option.getD_some] at h2
      rw [← h2]
      rfl
    clear hown CX CJ CT
    go_wp2_with fail
    go_loopw [3, 12] (fun mv iv wr => ∃ k : Nat, k ≤ M ∧ iv = .int .i64 (k : Int) ∧ mv = .int .i64 (mxJ L k) ∧ w3 = wr) (fun _ iv _ => M - (intOf iv).toNat)
    case atStart => exact ⟨0, Nat.zero_le _, rfl, by rw [HM0.out], rfl⟩
    case round =>
      obtain ⟨k, hk, rfl, rfl, rfl⟩ := hrel
      by_cases hlt : k < M
      · have hc := HC.out k hlt
        have kk : (k : Int) < (M : Int) := by omega
        have kk0 : (0 : Int) ≤ (k : Int) := by omega
        have HMn := Lib.hid (HMx.out k)
        obtain ⟨m, hm⟩ : ∃ z, mxJ L k = z := ⟨_, rfl⟩
        obtain ⟨z, hz⟩ : ∃ z, jmp L k = z := ⟨_, rfl⟩
        rw [hm, hz] at HMn
        rw [hz] at hc
        rw [hm]
        clear hm hz
        go_wp2
        go_roundw
        case rel => exact ⟨k + 1, by omega, by go_num, by first | (rw [HMn.out]; done) | (rw [HMn.out]; congr 1; split <;> omega) | (rw [HMn.out]; congr 1; omega), (by trivial)⟩
        case measure => simp [intOf]; omega
      · obtain rfl : k = M := by omega
        go_wp2
        go_ret
        exact ⟨rfl, B3.out⟩

set_option maxHeartbeats 2000000 in
set_option maxRecDepth 100000 in
theorem long1_no (pc pn : Nat) (c n : Int) (w : World) (h0 : w.cell? ⟨pc, 0, none⟩ = some (.int .i64 c)) (h1 : w.cell? ⟨pn, 0, none⟩ = some (.int .i64 n)) (hr : NoRes w) (hok : (inB c 0 3 && inB n 0 4) = false) :
    Calls Tryd.prog 66 #[.pointer (some ⟨pc, 0, none⟩), .pointer (some ⟨pn, 0, none⟩)] w (fun e w' => (∃ T x, e = .panicked [{ v := .iface T x, recovered := false }]) ∧ Below w.heap.size w w') := by
  have CT := Lib.hid (requiredTour_no c n w hok hr)
  clear hr hok
  go_enter Tryd.func66, Tryd.ntmps66
  go_wp2_with fail
  refine CT.out.mono ?_
  rintro e w1 ⟨⟨T, x, rfl⟩, hb⟩
  have B1 := Lib.hid hb
  clear hb
  go_wp2
  exact ⟨rfl, ⟨T, x, rfl⟩, B1.out⟩

theorem call_Long1 : ∀ args (W : World), (callFunc 66 args).run Tryd.prog W = .ok (.enter 66 args) W := by
  intro args W
  first | (go_simp; done) | (simp [callFunc, go_sem]; done) | kernel_rfl

set_option maxHeartbeats 4000000 in
set_option maxRecDepth 100000 in
theorem impl_LongestJump (c n : Int) (w : World) (hn : NoRes w) (hQ : QvP w) :
    Calls Tryd.prog 19 #[.int .i64 c, .int .i64 n] w (SaysIOk (ljV c n) (inB c 0 3 && inB n 0 4) w) := by
  obtain ⟨W0, hW0⟩ : ∃ W0, ((w.alloc (.cells #[.int .i64 c] 2)).alloc (.cells #[.int .i64 n] 2)) = W0 := ⟨_, rfl⟩
  have b0 : Below w.heap.size w W0 := by rw [← hW0]; exact Joins.below_alloc2 w _ _
  have h0 : W0.heap[w.heap.size]? = some (.cells #[.int .i64 c] 2 (0, 0)) := by
    rw [← hW0, Below.heap_alloc _ _ _ (by simp)]; exact heap_alloc_last w _
  have h1 : W0.heap[w.heap.size + 1]? = some (.cells #[.int .i64 n] 2 (0, 0)) := by
    rw [← hW0]
    exact heap_alloc2_new _ _ _
  have hmf : ∀ (fn : Fn) (first cap : Array Value) (w : World), (Instr.makeFunc fn first cap).run Tryd.prog w = .ok (.func fn first cap) w := fun _ _ _ _ => rfl
  have B0 := Lib.hid b0
  have HW := Lib.hid hW0
  cases hok : (inB c 0 3 && inB n 0 4) with
  | true =>
    have C := Lib.hid (attemptI_yes 66 #[.pointer (some ⟨w.heap.size, 0, none⟩), .pointer (some ⟨w.heap.size + 1, 0, none⟩)] W0 (fun u W w' => u = .int .i64 (ljV c n)) call_Long1 (fun W hb => (long1_yes w.heap.size (w.heap.size + 1) c n W (cell_kept hb (cell_of_one h0)) (cell_kept hb (cell_of_one h1)) ((hQ.below b0).below hb) hok).mono (fun e w' ⟨he, hb⟩ => ⟨_, he, rfl, hb⟩)))
    obtain ⟨d, hd⟩ : ∃ d, ljV c n = d := ⟨_, rfl⟩
    rw [hd] at C ⊢
    clear hn hQ hd hok b0 h0 h1 hW0
    go_enter Tryd.func19, Tryd.ntmps19
    go_upto_region 1 with fail
    rw [HW.out]
    go_wp2_with fail
    refine C.out.mono ?_
    rintro e w1 ⟨r, w2, rfl, hQ, hb, rfl, r1, r2⟩
    obtain rfl : r = d := by injection hQ
    have hs := B0.out.size
    have HB := Lib.hid (((B0.out.trans (hb.mono hs)).setCell (p := ⟨W0.heap.size, 0, none⟩) hs (.int .i64 r)).setCell (p := ⟨W0.heap.size + 1, 0, none⟩) (by show w.heap.size ≤ W0.heap.size + 1; omega) (.bool true))
    clear hQ hb r1 r2
    go_wp2_with fail
    go_ret2
    exact ⟨rfl, HB.out⟩
  | false =>
    have C := Lib.hid (attemptI_no 66 #[.pointer (some ⟨w.heap.size, 0, none⟩), .pointer (some ⟨w.heap.size + 1, 0, none⟩)] W0 call_Long1 (fun W hb => long1_no w.heap.size (w.heap.size + 1) c n W (cell_kept hb (cell_of_one h0)) (cell_kept hb (cell_of_one h1)) ((hn.below b0).below hb) hok))
    have HV : Hid (ljV c n = 0) := by show _ = _; unfold ljV; rw [if_neg (by rw [hok]; decide)]
    rw [HV.out]
    clear hn hQ hok b0 h0 h1 hW0 HV
    go_enter Tryd.func19, Tryd.ntmps19
    go_upto_region 1 with fail
    rw [HW.out]
    go_wp2_with fail
    refine C.out.mono ?_
    rintro e w1 ⟨rfl, hb⟩
    have HB := Lib.hid (B0.out.trans (hb.mono B0.out.size))
    clear hb
    go_wp2_with fail
    go_ret2
    exact ⟨rfl, HB.out⟩

set_option maxHeartbeats 4000000 in
set_option maxRecDepth 100000 in
theorem law_LongestJump (c n : Int) (w : World) (hn : NoRes w) (hQ : QvP w) :
    Calls Tryd.prog 5 #[.int .i64 c, .int .i64 n] w fun e w' => e = .returned (.bool true) ∧ Below w.heap.size w w' := by
  have CS := Lib.hid (fun W => spec_LongestJump c n W)
  have CI : Hid (∀ W, Below w.heap.size w W → Calls Tryd.prog 19 #[.int .i64 c, .int .i64 n] W (SaysIOk (ljV c n) (inB c 0 3 && inB n 0 4) W)) := fun W hb => impl_LongestJump c n W (hn.below hb) (hQ.below hb)
  obtain ⟨v, hv⟩ : ∃ v, ljV c n = v := ⟨_, rfl⟩
  obtain ⟨ok, hok⟩ : ∃ v, (inB c 0 3 && inB n 0 4) = v := ⟨_, rfl⟩
  rw [hv, hok] at CS CI
  unfold SaysIOk at CS CI
  clear hn hQ hv hok
  go_enter Tryd.func5, Tryd.ntmps5
  go_wp2_with fail
  refine (CS.out _).mono ?_
  rintro e w1 ⟨rfl, hb1⟩
  have B1 := Lib.hid hb1
  clear hb1
  go_wp2_with fail
  refine (CI.out _ B1.out).mono ?_
  rintro e w2 ⟨rfl, hb2⟩
  have B2 := Lib.hid (B1.out.trans (hb2.mono B1.out.size))
  clear hb2 CI CS
  cases ok
  all_goals go_wp2
  all_goals go_ret
  all_goals exact ⟨rfl, B2.out⟩
end Go.Proofs.YtdeagfmldpociaaDoor
