/- Contracts of single functions, and plain lemmas, on which the exact laws of this seat rest; each holds under the conditions that it states. -/
import Derived.Test.YtnmnlbgialolhaaDoorGD
import Derived.Test.YtnmnlbgialolhaaDoorR1
namespace Go.Proofs.YtnmnlbgialolhaaDoor
set_option linter.unusedVariables false
set_option linter.unusedSimpArgs false
open Go.RowKit

/-- rows that are valid come back as they are; others are given up -/
def ReqRows (m : Int) (gs : List (List Int)) (v : Value) (w : World) (e : Ending) (w' : World) : Prop :=
  ((vG m gs = true ∧ e = .returned v) ∨ (vG m gs = false ∧ ∃ T x, e = .panicked [{ v := .iface T x, recovered := false }])) ∧ Below w.heap.size w w'

set_option maxHeartbeats 4000000 in
set_option maxRecDepth 100000 in
theorem requiredRows_any (v : Value) (gs : List (List Int)) (m : Int) (w : World) (hN : gs.length ≤ 1048576) (hf : ∀ i, i < gs.length → (rowF gs i).length ≤ 1048576) (hv : SlG w v gs) (hr : NoRes w) :
    Calls Tryd.prog 105 #[v, .int .i64 m] w (ReqRows m gs v w) := by
  obtain ⟨ao, cap, rfl, hop⟩ := hv.open'
  have HBad := Lib.hid (fun i hi h => @rowsB_bad m gs i hi h)
  have HNM := Lib.hid (fun i => @numsB_mm (rowF gs i) m)
  have HG := Lib.hid (@rowsB_good m gs)
  have HV : Hid (vG m gs = (inB (gs.length : Int) 1 16 && inB ((rowF gs 0).length : Int) 1 16 && rowsB m gs gs.length)) := rfl
  have HRs : Hid (∀ W, Below w.heap.size w W → NoRes W) := fun W hb => hr.below hb
  unfold ReqRows
  obtain ⟨r, hre⟩ : ∃ r, vG m gs = r := ⟨_, rfl⟩
  rw [hre] at HBad HV ⊢
  by_cases hn : 1 ≤ gs.length
  · obtain ⟨b, off, rfl, hb, hc⟩ := hop (by omega)
    have HF := Lib.hid hf
    have HS : Hid (∀ W, Below w.heap.size w W → ∀ i, i < gs.length → ∃ (ay : Option Addr) (cy : Nat), W.cell? ⟨b, off + i, none⟩ = some (.slice ay (rowF gs i).length cy) ∧ (0 < (rowF gs i).length → ∃ b2 o2, ay = some ⟨b2, o2, none⟩ ∧ b2 < W.heap.size ∧ ∀ j, j < (rowF gs i).length → W.cell? ⟨b2, o2 + j, none⟩ = some (.int .i64 ((rowF gs i).getD j 0)))) := fun W hbe i hi => by
      obtain ⟨ay, cy, h1, _, h3⟩ := hc i hi
      refine ⟨ay, cy, cell_kept hbe h1, fun hp => ?_⟩
      obtain ⟨b2, o2, e, hb2, h4⟩ := h3 hp
      exact ⟨b2, o2, e, Nat.lt_of_lt_of_le hb2 hbe.size, fun j hj => cell_kept hbe (h4 j hj)⟩
    obtain ⟨a0, c0, h0, _⟩ := hc 0 (by omega)
    rw [Nat.add_zero] at h0
    obtain ⟨n, hnn⟩ : ∃ n, gs.length = n := ⟨_, rfl⟩
    rw [hnn] at hn HF HS HBad HG HV hN
    obtain ⟨w0, hw0⟩ : ∃ k, (rowF gs 0).length = k := ⟨_, rfl⟩
    rw [hw0] at h0 HBad HG HV
    have npos : (0 : Int) < (n : Int) := by omega
    have np : 0 < n := by omega
    rw [hnn]
    have hw0b : w0 ≤ 1048576 := by rw [← hw0]; exact hf 0 (by omega)
    clear hc hf hop hv hre hnn hw0 hr
    by_cases hw : (1 ≤ w0 ∧ w0 ≤ 16) ∧ n ≤ 16
    · have C := Lib.hid (fun W => blankMatrix_yes (w0 : Int) (n : Int) W (by omega) (by omega))
      unfold RetMat at C
      rw [inB_yes (n := (n : Int)) (a := 1) (b := 16) (by omega) (by omega), inB_yes (n := (w0 : Int)) (a := 1) (b := 16) (by omega) (by omega)] at HV
      obtain ⟨M, hM⟩ : ∃ M, mcells (w0 : Int) (n : Int) (fun _ => 0) = M := ⟨_, rfl⟩
      have HI : Hid ((Tryd.prog.info? 63).map (·.size) = some M.size) := by show _ = _; rw [← hM]; exact infoM
      have HZ : Hid (zeros.size = M.size) := by show _ = _; rw [← hM]; rfl
      have HO : Hid (M.all (·.oneCell') = true) := by show _ = _; rw [← hM]; exact mcells_one _ _ _
      have HM0 : Hid (∀ W : World, ∀ g, W.heap[g]? = some (.cells M 63 (0, 0)) → W.cell? ⟨g, 0, none⟩ = some (.int .i64 w0)) := fun W g h => by
        rw [← hM] at h
        rw [Joins.cell_of_block h 0]; rfl
      rw [hM] at C
      clear hM
      go_enter Tryd.func105, Tryd.ntmps105
      go_wp2_with fail
      refine (require_yes _).mono ?_
      rintro e w' ⟨rfl, hw'⟩
      obtain rfl := hw'.symm
      go_wp2_with fail
      refine (C.out _).mono ?_
      rintro e w1 ⟨rfl, hb1⟩
      have M1 := Lib.hid (heap_alloc_last w1 (.cells M 63))
      have B1 := Lib.hid (hb1.alloc hb1.size (.cells M 63))
      clear hb1
      obtain ⟨W1, hW1⟩ : ∃ W1, w1.alloc (.cells M 63) = W1 := ⟨_, rfl⟩
      rw [hW1] at M1 B1
      have HW1 := Lib.hid hW1
      clear hW1
      go_wp2_with (refine wpList_store_new w1 rfl 63 _ _ rfl M rfl rfl 63 zeros HI.out HZ.out HO.out ?_; refine Hid.out ?_)
      rw [HW1.out]
      refine Lib.hid ?_
      go_wp2_with fail
      refine (require_yes _).mono ?_
      rintro e w' ⟨rfl, hw'⟩
      obtain rfl := hw'.symm
      go_wp2_with fail
      go_loopw [27] (fun yv wr => ∃ y : Nat, y ≤ n ∧ yv = .int .i64 y ∧ Hid (∀ i, i < y → (rowF gs i).length = w0 ∧ numsB m (rowF gs i) = true) ∧ W1 = wr) (fun yv _ => n - (intOf yv).toNat)
      case atStart => exact ⟨0, Nat.zero_le _, rfl, fun i h => absurd h (Nat.not_lt_zero i), rfl⟩
      case round =>
        obtain ⟨y, hy, rfl, HJ, rfl⟩ := hrel
        have lb : b < W1.heap.size := Nat.lt_of_lt_of_le hb B1.out.size
        by_cases hlt : y < n
        · have yn : (y : Int) < (n : Int) := by omega
          have y0 : (0 : Int) ≤ (y : Int) := by omega
          obtain ⟨ay, cy, hcy, hin⟩ := HS.out _ B1.out y hlt
          have hfy := HF.out y hlt
          have hbad := Lib.hid (HBad.out y hlt)
          have hnm := Lib.hid (HNM.out y)
          have hm0 := HM0.out _ _ M1.out
          have lm := (Array.getElem?_eq_some_iff.1 M1.out).1
          obtain ⟨q, hq⟩ : ∃ q, rowF gs y = q := ⟨_, rfl⟩
          rw [hq] at hcy hin hfy hbad hnm
          have HQ := Lib.hid hq
          obtain ⟨k, hk⟩ : ∃ k, q.length = k := ⟨_, rfl⟩
          rw [hk] at hcy hin hfy hbad hnm
          have HK := Lib.hid hk
          have HIn := Lib.hid hin
          have hfm : k ≤ maxLen := by unfold maxLen; omega
          clear hq hk hin
          by_cases hkw : k = w0
          · subst hkw
            have kpos : 0 < k := by omega
            obtain ⟨b2, o2, rfl, hb2, hnum⟩ := HIn.out kpos
            have CMin := Lib.hid (sMin_any b2 o2 k cy q W1 kpos hfm hb2 hnum)
            have CMax := Lib.hid (sMax_any b2 o2 k cy q W1 kpos hfm hb2 hnum)
            have hnm := Lib.hid (hnm.out kpos)
            have HNr := Lib.hid (require_no W1 (HRs.out _ B1.out))
            have HN : Hid (numsB m q = true → ∀ i, i < y + 1 → (rowF gs i).length = k ∧ numsB m (rowF gs i) = true) := fun hq i hi => by
              by_cases e : i = y
              · rw [e, HQ.out]
                exact ⟨HK.out, hq⟩
              · exact HJ.out i (by omega)
            obtain ⟨lo, hlo⟩ : ∃ z, mnK q k = z := ⟨_, rfl⟩
            obtain ⟨hi, hhi⟩ : ∃ z, mxK q k = z := ⟨_, rfl⟩
            rw [hlo] at CMin hnm
            rw [hhi] at CMax hnm
            clear hnum hlo hhi hb2
            by_cases g1 : 0 ≤ lo
            · by_cases g2 : hi ≤ m
              · have HN2 := Lib.hid (HN.out (by rw [hnm.out, decide_eq_true g1, decide_eq_true g2]; rfl))
                go_wp2_with fail
                refine CMin.out.mono ?_
                rintro e w' ⟨rfl, rfl⟩
                go_wp2_with fail
                refine CMax.out.mono ?_
                rintro e w' ⟨rfl, rfl⟩
                go_wp2_with fail
                refine (require_yes _).mono ?_
                rintro e w' ⟨rfl, hw'⟩
                obtain rfl := hw'.symm
                go_wp2_with fail
                go_roundw
                case rel => exact ⟨y + 1, by omega, by go_num, HN2, (by trivial)⟩
                case measure => simp [intOf]; omega
              · have HF2 := Lib.hid (hbad.out (Or.inr (by rw [hnm.out, decide_eq_false g2, Bool.and_false])))
                go_wp2_with fail
                refine CMin.out.mono ?_
                rintro e w' ⟨rfl, rfl⟩
                go_wp2_with fail
                refine CMax.out.mono ?_
                rintro e w' ⟨rfl, rfl⟩
                go_wp2_with fail
                rw [decide_eq_false (show ¬ hi ≤ m by omega)]
                refine HNr.out.mono ?_
                rintro e w' ⟨T, x, rfl, rfl⟩
                go_wp2_with fail
                exact ⟨rfl, Or.inr ⟨HF2.out, T, x, rfl⟩, B1.out⟩
            · have HF2 := Lib.hid (hbad.out (Or.inr (by rw [hnm.out, decide_eq_false g1, Bool.false_and])))
              go_wp2_with fail
              refine CMin.out.mono ?_
              rintro e w' ⟨rfl, rfl⟩
              go_wp2_with fail
              refine HNr.out.mono ?_
              rintro e w' ⟨T, x, rfl, rfl⟩
              go_wp2_with fail
              exact ⟨rfl, Or.inr ⟨HF2.out, T, x, rfl⟩, B1.out⟩
          · have HF2 := Lib.hid (hbad.out (Or.inl hkw))
            have kne : ¬ (k : Int) = (w0 : Int) := by omega
            have HNr := Lib.hid (require_no W1 (HRs.out _ B1.out))
            go_wp2_with fail
            refine HNr.out.mono ?_
            rintro e w' ⟨T, x, rfl, rfl⟩
            go_wp2_with fail
            exact ⟨rfl, Or.inr ⟨HF2.out, T, x, rfl⟩, B1.out⟩
        · obtain rfl : y = n := by omega
          have HR : Hid (r = true) := by
            show r = true
            rw [HV.out, HG.out HJ.out]
            rfl
          go_wp2_with fail
          go_ret
          exact ⟨Or.inl ⟨HR.out, rfl⟩, B1.out⟩
    · have C := Lib.hid (fun W => blankMatrix_no (w0 : Int) (n : Int) W (by omega))
      unfold RetMat at C
      have HR : Hid (r = false) := by
        show r = false
        rw [HV.out]
        by_cases h1 : n ≤ 16
        · rw [inB_no (n := (w0 : Int)) (a := 1) (b := 16) (by omega)]; simp
        · rw [inB_no (n := (n : Int)) (a := 1) (b := 16) (by omega)]; simp
      obtain ⟨M, hM⟩ : ∃ M, mcells 0 0 (fun _ => 0) = M := ⟨_, rfl⟩
      have HI : Hid ((Tryd.prog.info? 63).map (·.size) = some M.size) := by show _ = _; rw [← hM]; exact infoM
      have HZ : Hid (zeros.size = M.size) := by show _ = _; rw [← hM]; rfl
      have HO : Hid (M.all (·.oneCell') = true) := by show _ = _; rw [← hM]; exact mcells_one _ _ _
      rw [hM] at C
      clear hM
      go_enter Tryd.func105, Tryd.ntmps105
      go_wp2_with fail
      refine (require_yes _).mono ?_
      rintro e w' ⟨rfl, hw'⟩
      obtain rfl := hw'.symm
      go_wp2_with fail
      refine (C.out _).mono ?_
      rintro e w1 ⟨rfl, hb1⟩
      have B1 := Lib.hid (hb1.alloc hb1.size (.cells M 63))
      clear hb1
      go_wp2_with (refine wpList_store_new w1 rfl 63 _ _ rfl M rfl rfl 63 zeros HI.out HZ.out HO.out ?_; refine Hid.out ?_)
      refine Lib.hid ?_
      go_wp2_with fail
      refine (require_no _ (HRs.out _ B1.out)).mono ?_
      rintro e w' ⟨T, x, rfl, rfl⟩
      go_wp2_with fail
      exact ⟨rfl, Or.inr ⟨HR.out, T, x, rfl⟩, B1.out⟩
  · have h0 : gs.length = 0 := by omega
    have HR : Hid (r = false) := by
      show r = false
      rw [HV.out, inB_no (n := (gs.length : Int)) (a := 1) (b := 16) (by omega)]; simp
    rw [h0]
    clear HV HBad HNM HG hop hv hf hn h0 hN
    have HNr := Lib.hid (require_no w hr)
    clear hr
    go_enter Tryd.func105, Tryd.ntmps105
    go_wp2_with fail
    refine HNr.out.mono ?_
    rintro e w' ⟨T, x, rfl, rfl⟩
    go_wp2_with fail
    exact ⟨rfl, Or.inr ⟨HR.out, T, x, rfl⟩, Below.refl _ _⟩

set_option maxHeartbeats 1000000 in
theorem requiredGrey_any (v : Value) (gs : List (List Int)) (w : World) (hN : gs.length ≤ 1048576) (hf : ∀ i, i < gs.length → (rowF gs i).length ≤ 1048576) (hv : SlG w v gs) (hr : NoRes w) :
    Calls Tryd.prog 67 #[.agg #[v]] w (ReqRows 99 gs v w) := by
  have hb0 := Joins.below_alloc1 w (.cells #[v] 35)
  have C := Lib.hid (requiredRows_any v gs 99 _ hN hf (hv.below hb0) (hr.below hb0))
  have HB0 := Lib.hid hb0
  unfold ReqRows at C ⊢
  clear hf hv hr hb0
  go_enter Tryd.func67, Tryd.ntmps67
  go_wp2_with fail
  refine C.out.mono ?_
  rintro e w' ⟨(⟨h1, rfl⟩ | ⟨h1, T, x, rfl⟩), hb⟩
  · have HB := Lib.hid (HB0.out.trans (hb.mono (by simp)))
    have H1 := Lib.hid h1
    clear hb h1
    go_wp2
    go_ret
    exact ⟨Or.inl ⟨H1.out, rfl⟩, HB.out⟩
  · have HB := Lib.hid (HB0.out.trans (hb.mono (by simp)))
    have H1 := Lib.hid h1
    clear hb h1
    go_wp2
    exact ⟨rfl, Or.inr ⟨H1.out, T, x, rfl⟩, HB.out⟩

end Go.Proofs.YtnmnlbgialolhaaDoor
