/- Contracts of single functions, and plain lemmas, on which the exact laws of this seat rest; each holds under the conditions that it states. -/
import Derived.Test.YthkmfiipmhlbjaaDoorR1
import Derived.Test.YthkmfiipmhlbjaaDoorGD
namespace Go.Proofs.YthkmfiipmhlbjaaDoor
set_option linter.unusedVariables false
set_option linter.unusedSimpArgs false
open Go.RowKit

theorem catchPR_panicking (p q : Addr) (u0 b0 : Value) (u : TypeId) (pv : Value) (older : List PanicEntry) (w : World) (hc : w.cell? p = some u0) (hz : w.frozen? p = false) (hc2 : w.cell? q = some b0) (hz2 : w.frozen? q = false) (hne : p.block ≠ q.block) :
    CallsD Tryd.prog 97 #[.pointer (some p), .pointer (some q)] (.panicking ({ v := .iface u pv, recovered := false } :: older)) w fun e u' w' =>
      e = .returned (.tuple #[]) ∧ u' = .panicking ({ v := .iface u pv, recovered := true } :: older) ∧ w' = (w.setCell p (.slice none 0 0)).setCell q (.bool false) := by
  have hd2 : (w.setCell p (.slice none 0 0)).cell? q = some b0 := by rw [World.cell?_setCell_other _ _ _ _ (fun e => hne (by rw [e]))]; exact hc2
  have hf2 : (w.setCell p (.slice none 0 0)).frozen? q = false := by rw [World.frozen?_setCell]; exact hz2
  refine callsD_of_wpS Tryd.func97 rfl fun c₀ cs hu => ?_
  apply wpS_seq
  apply wpS_region
  simp [wpOpsS, go_sem, recoverD, hu, Tryd.ntmps97, Exit.thenS]
  refine wpS_cond (t := true) (by simp [Act.eval, Array.replicate]) ?_
  simp only [if_true]
  apply wpS_seq
  apply wpS_region
  simp [wpOpsS, go_sem, Exit.thenS]
  apply wpS_region
  simp [wpOpsS, go_sem, hc, hz, hd2, hf2, bodyPostS, results, Tryd.results97]

theorem catchPR_idle (p q : Addr) (w : World) :
    CallsD Tryd.prog 97 #[.pointer (some p), .pointer (some q)] .returning w fun e u' w' => e = .returned (.tuple #[]) ∧ u' = .returning ∧ w' = w := by
  refine callsD_of_wpS Tryd.func97 rfl fun c₀ cs hu => ?_
  apply wpS_seq
  apply wpS_region
  simp [wpOpsS, go_sem, recoverD, hu, Tryd.ntmps97, Exit.thenS]
  refine wpS_cond (t := false) (by simp [Act.eval, Array.replicate]) ?_
  simp only [Bool.false_eq_true, if_false]
  refine wpS_of_wp (wp_skip ?_)
  cases c₀
  simp_all [bodyPostS, results, Tryd.results97]

/-- the work yields -/
theorem attemptPR_yes (K : Nat) (caps : Array Value) (w : World) (Q : Value → World → World → Prop) (hcf : ∀ args (W : World), (callFunc K args).run Tryd.prog W = .ok (.enter K args) W) (hw : ∀ W, Below w.heap.size w W → Calls Tryd.prog K caps W (fun e w' => ∃ (ao : Option Addr) (n cap : Nat), e = .returned (.slice ao n cap) ∧ Q (.slice ao n cap) W w' ∧ Below W.heap.size W w')) :
    Calls Tryd.prog 42 #[.func (.func K) #[] caps] w fun e w' => ∃ (ao : Option Addr) (n cap : Nat) (w1 : World), e = .returned (.tuple #[.slice ao n cap, .bool true]) ∧ Q (.slice ao n cap) ((w.alloc (.cells #[.slice none 0 0] 61)).alloc (.cells #[.bool false] 4)) w1 ∧ Below w.heap.size w w1 ∧ w' = (w1.setCell ⟨w.heap.size, 0, none⟩ (.slice ao n cap)).setCell ⟨w.heap.size + 1, 0, none⟩ (.bool true) ∧ w1.heap[w.heap.size]? = some (.cells #[.slice none 0 0] 61 (0, 0)) ∧ w1.heap[w.heap.size + 1]? = some (.cells #[.bool false] 4 (0, 0)) := by
  have hmf : ∀ (fn : Fn) (first cap : Array Value) (w : World), (Instr.makeFunc fn first cap).run Tryd.prog w = .ok (.func fn first cap) w := fun _ _ _ _ => rfl
  have hb0 := Joins.below_alloc2 w (.cells #[.slice none 0 0] 61) (.cells #[.bool false] 4)
  have CW := Lib.hid (hw _ hb0)
  have h1 : ((w.alloc (.cells #[.slice none 0 0] 61)).alloc (.cells #[.bool false] 4)).heap[w.heap.size]? = some (.cells #[.slice none 0 0] 61 (0, 0)) := by
    rw [Below.heap_alloc _ _ _ (by simp)]; exact heap_alloc_last w _
  have h2 : ((w.alloc (.cells #[.slice none 0 0] 61)).alloc (.cells #[.bool false] 4)).heap[w.heap.size + 1]? = some (.cells #[.bool false] 4 (0, 0)) := heap_alloc2_new _ _ _
  have H1 := Lib.hid h1
  have H2 := Lib.hid h2
  have B0 := Lib.hid hb0
  clear h1 h2 hb0 hw
  go_enter_defers Tryd.func42, Tryd.ntmps42
  go_wp2_with fail
  refine CW.out.mono ?_
  rintro e w1 ⟨ao, n, cap, rfl, hQ, hb⟩
  have r1 := (hb.block w.heap.size (by simp; omega)).trans H1.out
  have r2 := (hb.block (w.heap.size + 1) (by simp)).trans H2.out
  have c1 := cell_of_one r1
  have c2 := cell_of_one r2
  have f1 := free_of_one r1
  have f2 := free_of_one r2
  have HQ := Lib.hid hQ
  have HB := Lib.hid hb
  have R1 := Lib.hid r1
  have R2 := Lib.hid r2
  clear hQ hb r1 r2
  go_wp2_with fail
  have x1 : ((w1.setCell ⟨w.heap.size, 0, none⟩ (.slice ao n cap)).setCell ⟨w.heap.size + 1, 0, none⟩ (.bool true)).cell? ⟨w.heap.size, 0, none⟩ = some (.slice ao n cap) := by
    rw [World.cell?_setCell_other _ _ _ _ (by intro e; have := congrArg Addr.block e; simp at this)]
    exact cell_of_one (one_setCell R1.out)
  have r3 : (w1.setCell ⟨w.heap.size, 0, none⟩ (.slice ao n cap)).heap[w.heap.size + 1]? = some (.cells #[.bool false] 4 (0, 0)) := (Below.heap_setCell _ _ _ _ (by simp)).trans R2.out
  have x2 : ((w1.setCell ⟨w.heap.size, 0, none⟩ (.slice ao n cap)).setCell ⟨w.heap.size + 1, 0, none⟩ (.bool true)).cell? ⟨w.heap.size + 1, 0, none⟩ = some (.bool true) := cell_of_one (one_setCell r3)
  refine leaves_cons (f := 97) (args := #[.pointer (some ⟨w.heap.size, 0, none⟩), .pointer (some ⟨w.heap.size + 1, 0, none⟩)]) (by simp) (by simp [go_sem]) ?_
  refine (catchPR_idle ⟨w.heap.size, 0, none⟩ ⟨w.heap.size + 1, 0, none⟩ _).mono ?_
  rintro e u' w'' ⟨rfl, rfl, rfl⟩
  refine ⟨.tuple #[.slice ao n cap, .bool true], by simp [results, Tryd.results42, go_sem, x1, x2], ao, n, cap, w1, rfl, HQ.out, B0.out.trans (HB.out.mono (by simp; omega)), rfl, R1.out, R2.out⟩

set_option maxHeartbeats 1000000 in
set_option maxRecDepth 100000 in
/-- the work is given up -/
theorem attemptPR_no (K : Nat) (caps : Array Value) (w : World) (hcf : ∀ args (W : World), (callFunc K args).run Tryd.prog W = .ok (.enter K args) W) (hw : ∀ W, Below w.heap.size w W → Calls Tryd.prog K caps W (fun e w' => (∃ T x, e = .panicked [{ v := .iface T x, recovered := false }]) ∧ Below W.heap.size W w')) :
    Calls Tryd.prog 42 #[.func (.func K) #[] caps] w fun e w' => e = .returned (.tuple #[.slice none 0 0, .bool false]) ∧ Below w.heap.size w w' := by
  have hmf : ∀ (fn : Fn) (first cap : Array Value) (w : World), (Instr.makeFunc fn first cap).run Tryd.prog w = .ok (.func fn first cap) w := fun _ _ _ _ => rfl
  have hb0 := Joins.below_alloc2 w (.cells #[.slice none 0 0] 61) (.cells #[.bool false] 4)
  have CW := Lib.hid (hw _ hb0)
  have h1 : ((w.alloc (.cells #[.slice none 0 0] 61)).alloc (.cells #[.bool false] 4)).heap[w.heap.size]? = some (.cells #[.slice none 0 0] 61 (0, 0)) := by
    rw [Below.heap_alloc _ _ _ (by simp)]; exact heap_alloc_last w _
  have h2 : ((w.alloc (.cells #[.slice none 0 0] 61)).alloc (.cells #[.bool false] 4)).heap[w.heap.size + 1]? = some (.cells #[.bool false] 4 (0, 0)) := heap_alloc2_new _ _ _
  have H1 := Lib.hid h1
  have H2 := Lib.hid h2
  have B0 := Lib.hid hb0
  clear h1 h2 hb0 hw
  go_enter_defers Tryd.func42, Tryd.ntmps42
  go_wp2_with fail
  refine CW.out.mono ?_
  rintro e w1 ⟨⟨T, x, rfl⟩, hb⟩
  have r1 := (hb.block w.heap.size (by simp; omega)).trans H1.out
  have r2 := (hb.block (w.heap.size + 1) (by simp)).trans H2.out
  have HB := Lib.hid (B0.out.trans (hb.mono (by simp; omega)))
  clear hb
  go_wp2_with fail
  have r3 : (w1.setCell ⟨w.heap.size, 0, none⟩ (.slice none 0 0)).heap[w.heap.size + 1]? = some (.cells #[.bool false] 4 (0, 0)) := (Below.heap_setCell _ _ _ _ (by simp)).trans r2
  have x1 : ((w1.setCell ⟨w.heap.size, 0, none⟩ (.slice none 0 0)).setCell ⟨w.heap.size + 1, 0, none⟩ (.bool false)).cell? ⟨w.heap.size, 0, none⟩ = some (.slice none 0 0) := by
    rw [World.cell?_setCell_other _ _ _ _ (by intro e; have := congrArg Addr.block e; simp at this)]
    exact cell_of_one (one_setCell r1)
  have x2 : ((w1.setCell ⟨w.heap.size, 0, none⟩ (.slice none 0 0)).setCell ⟨w.heap.size + 1, 0, none⟩ (.bool false)).cell? ⟨w.heap.size + 1, 0, none⟩ = some (.bool false) := cell_of_one (one_setCell r3)
  have hs := HB.out.size
  refine leaves_cons (f := 97) (args := #[.pointer (some ⟨w.heap.size, 0, none⟩), .pointer (some ⟨w.heap.size + 1, 0, none⟩)]) (by simp) (by simp [go_sem]) ?_
  refine (catchPR_panicking ⟨w.heap.size, 0, none⟩ ⟨w.heap.size + 1, 0, none⟩ (.slice none 0 0) (.bool false) T x [] _ (cell_of_one r1) (free_of_one r1) (cell_of_one r2) (free_of_one r2) (by simp)).mono ?_
  rintro e u' w'' ⟨rfl, rfl, rfl⟩
  refine ⟨.tuple #[.slice none 0 0, .bool false], by simp [results, Tryd.results42, go_sem, x1, x2], rfl, (HB.out.setCell (p := ⟨w.heap.size, 0, none⟩) (Nat.le_refl _) _).setCell (p := ⟨w.heap.size + 1, 0, none⟩) (by simp) _⟩

end Go.Proofs.YthkmfiipmhlbjaaDoor

/- Contracts of single functions, and plain lemmas, on which the exact laws of this seat rest; each holds under the conditions that it states. -/
namespace Go.Proofs.YthkmfiipmhlbjaaDoor
set_option linter.unusedVariables false
set_option linter.unusedSimpArgs false
open Go.RowKit

/-- rows that are valid come back as they are; others are given up -/
def ReqRows (m : Int) (gs : List (List Int)) (v : Value) (w : World) (e : Ending) (w' : World) : Prop :=
  ((vG m gs = true ∧ e = .returned v) ∨ (vG m gs = false ∧ ∃ T x, e = .panicked [{ v := .iface T x, recovered := false }])) ∧ Below w.heap.size w w'

set_option maxHeartbeats 4000000 in
set_option maxRecDepth 100000 in
theorem requiredRows_any (v : Value) (gs : List (List Int)) (m : Int) (w : World) (hN : gs.length ≤ 1048576) (hf : ∀ i, i < gs.length → (rowF gs i).length ≤ 1048576) (hv : SlG w v gs) (hr : NoRes w) :
    Calls Tryd.prog 98 #[v, .int .i64 m] w (ReqRows m gs v w) := by
  obtain ⟨ao, cap, rfl, hop⟩ := hv.open'
  have HBad := Lib.hid (fun i hi h => @rowsB_bad m gs i hi h)
  have HNM := Lib.hid (fun i => @numsB_mm (rowF gs i) m)
  have HG := Lib.hid (@rowsB_good m gs)
  have HV : Hid (vG m gs = (inB (gs.length : Int) 1 16 && inB ((rowF gs 0).length : Int) 1 16 && rowsB m gs gs.length)) := rfl
  have HRs : Hid (∀ W, Below w.heap.size w W → NoRes W) := fun W hb => hr.below hb
  unfold ReqRows
  obtain ⟨r, hre⟩ : ∃ r, vG m gs = r := ⟨_, rfl⟩
  rw [hre] at HBad HV ⊢
  by_cases hn : 1 ≤ gs.length
  · obtain ⟨b, off, rfl, hb, hc⟩ := hop (by omega)
    have HF := Lib.hid hf
    have HS : Hid (∀ W, Below w.heap.size w W → ∀ i, i < gs.length → ∃ (ay : Option Addr) (cy : Nat), W.cell? ⟨b, off + i, none⟩ = some (.slice ay (rowF gs i).length cy) ∧ (0 < (rowF gs i).length → ∃ b2 o2, ay = some ⟨b2, o2, none⟩ ∧ b2 < W.heap.size ∧ ∀ j, j < (rowF gs i).length → W.cell? ⟨b2, o2 + j, none⟩ = some (.int .i64 ((rowF gs i).getD j 0)))) := fun W hbe i hi => by
      obtain ⟨ay, cy, h1, _, h3⟩ := hc i hi
      refine ⟨ay, cy, cell_kept hbe h1, fun hp => ?_⟩
      obtain ⟨b2, o2, e, hb2, h4⟩ := h3 hp
      exact ⟨b2, o2, e, Nat.lt_of_lt_of_le hb2 hbe.size, fun j hj => cell_kept hbe (h4 j hj)⟩
    obtain ⟨a0, c0, h0, _⟩ := hc 0 (by omega)
    rw [Nat.add_zero] at h0
    obtain ⟨n, hnn⟩ : ∃ n, gs.length = n := ⟨_, rfl⟩
    rw [hnn] at hn HF HS HBad HG HV hN
    obtain ⟨w0, hw0⟩ : ∃ k, (rowF gs 0).length = k := ⟨_, rfl⟩
    rw [hw0] at h0 HBad HG HV
    have npos : (0 : Int) < (n : Int) := by omega
    have np : 0 < n := by omega
    rw [hnn]
    have hw0b : w0 ≤ 1048576 := by rw [← hw0]; exact hf 0 (by omega)
    clear hc hf hop hv hre hnn hw0 hr
    by_cases hw : (1 ≤ w0 ∧ w0 ≤ 16) ∧ n ≤ 16
    · have C := Lib.hid (fun W => blankMatrix_yes (w0 : Int) (n : Int) W (by omega) (by omega))
      unfold RetMat at C
      rw [inB_yes (n := (n : Int)) (a := 1) (b := 16) (by omega) (by omega), inB_yes (n := (w0 : Int)) (a := 1) (b := 16) (by omega) (by omega)] at HV
      obtain ⟨M, hM⟩ : ∃ M, mcells (w0 : Int) (n : Int) (fun _ => 0) = M := ⟨_, rfl⟩
      have HI : Hid ((Tryd.prog.info? 95).map (·.size) = some M.size) := by show _ = _; rw [← hM]; exact infoM
      have HZ : Hid (zeros.size = M.size) := by show _ = _; rw [← hM]; rfl
      have HO : Hid (M.all (·.oneCell') = true) := by show _ = _; rw [← hM]; exact mcells_one _ _ _
      have HM0 : Hid (∀ W : World, ∀ g, W.heap[g]? = some (.cells M 95 (0, 0)) → W.cell? ⟨g, 0, none⟩ = some (.int .i64 w0)) := fun W g h => by
        rw [← hM] at h
        rw [Joins.cell_of_block h 0]; rfl
      rw [hM] at C
      clear hM
      go_enter Tryd.func98, Tryd.ntmps98
      go_wp2_with fail
      refine (require_yes _).mono ?_
      rintro e w' ⟨rfl, hw'⟩
      obtain rfl := hw'.symm
      go_wp2_with fail
      refine (C.out _).mono ?_
      rintro e w1 ⟨rfl, hb1⟩
      have M1 := Lib.hid (heap_alloc_last w1 (.cells M 95))
      have B1 := Lib.hid (hb1.alloc hb1.size (.cells M 95))
      clear hb1
      obtain ⟨W1, hW1⟩ : ∃ W1, w1.alloc (.cells M 95) = W1 := ⟨_, rfl⟩
      rw [hW1] at M1 B1
      have HW1 := Lib.hid hW1
      clear hW1
      go_wp2_with (refine wpList_store_new w1 rfl 95 _ _ rfl M rfl rfl 95 zeros HI.out HZ.out HO.out ?_; refine Hid.out ?_)
      rw [HW1.out]
      refine Lib.hid ?_
      go_wp2_with fail
      refine (require_yes _).mono ?_
      rintro e w' ⟨rfl, hw'⟩
      obtain rfl := hw'.symm
      go_wp2_with fail
      go_loopw [27] (fun yv wr => ∃ y : Nat, y ≤ n ∧ yv = .int .i64 y ∧ Hid (∀ i, i < y → (rowF gs i).length = w0 ∧ numsB m (rowF gs i) = true) ∧ W1 = wr) (fun yv _ => n - (intOf yv).toNat)
      case atStart => exact ⟨0, Nat.zero_le _, rfl, fun i h => absurd h (Nat.not_lt_zero i), rfl⟩
      case round =>
        obtain ⟨y, hy, rfl, HJ, rfl⟩ := hrel
        have lb : b < W1.heap.size := Nat.lt_of_lt_of_le hb B1.out.size
        by_cases hlt : y < n
        · have yn : (y : Int) < (n : Int) := by omega
          have y0 : (0 : Int) ≤ (y : Int) := by omega
          obtain ⟨ay, cy, hcy, hin⟩ := HS.out _ B1.out y hlt
          have hfy := HF.out y hlt
          have hbad := Lib.hid (HBad.out y hlt)
          have hnm := Lib.hid (HNM.out y)
          have hm0 := HM0.out _ _ M1.out
          have lm := (Array.getElem?_eq_some_iff.1 M1.out).1
          obtain ⟨q, hq⟩ : ∃ q, rowF gs y = q := ⟨_, rfl⟩
          rw [hq] at hcy hin hfy hbad hnm
          have HQ := Lib.hid hq
          obtain ⟨k, hk⟩ : ∃ k, q.length = k := ⟨_, rfl⟩
          rw [hk] at hcy hin hfy hbad hnm
          have HK := Lib.hid hk
          have HIn := Lib.hid hin
          have hfm : k ≤ maxLen := by unfold maxLen; omega
          clear hq hk hin
          by_cases hkw : k = w0
          · subst hkw
            have kpos : 0 < k := by omega
            obtain ⟨b2, o2, rfl, hb2, hnum⟩ := HIn.out kpos
            have CMin := Lib.hid (sMin_any b2 o2 k cy q W1 kpos hfm hb2 hnum)
            have CMax := Lib.hid (sMax_any b2 o2 k cy q W1 kpos hfm hb2 hnum)
            have hnm := Lib.hid (hnm.out kpos)
            have HNr := Lib.hid (require_no W1 (HRs.out _ B1.out))
            have HN : Hid (numsB m q = true → ∀ i, i < y + 1 → (rowF gs i).length = k ∧ numsB m (rowF gs i) = true) := fun hq i hi => by
              by_cases e : i = y
              · rw [e, HQ.out]
                exact ⟨HK.out, hq⟩
              · exact HJ.out i (by omega)
            obtain ⟨lo, hlo⟩ : ∃ z, mnK q k = z := ⟨_, rfl⟩
            obtain ⟨hi, hhi⟩ : ∃ z, mxK q k = z := ⟨_, rfl⟩
            rw [hlo] at CMin hnm
            rw [hhi] at CMax hnm
            clear hnum hlo hhi hb2
            by_cases g1 : 0 ≤ lo
            · by_cases g2 : hi ≤ m
              · have HN2 := Lib.hid (HN.out (by rw [hnm.out, decide_eq_true g1, decide_eq_true g2]; rfl))
                go_wp2_with fail
                refine CMin.out.mono ?_
                rintro e w' ⟨rfl, rfl⟩
                go_wp2_with fail
                refine CMax.out.mono ?_
                rintro e w' ⟨rfl, rfl⟩
                go_wp2_with fail
                refine (require_yes _).mono ?_
                rintro e w' ⟨rfl, hw'⟩
                obtain rfl := hw'.symm
                go_wp2_with fail
                go_roundw
                case rel => exact ⟨y + 1, by omega, by go_num, HN2, (by trivial)⟩
                case measure => simp [intOf]; omega
              · have HF2 := Lib.hid (hbad.out (Or.inr (by rw [hnm.out, decide_eq_false g2, Bool.and_false])))
                go_wp2_with fail
                refine CMin.out.mono ?_
                rintro e w' ⟨rfl, rfl⟩
                go_wp2_with fail
                refine CMax.out.mono ?_
                rintro e w' ⟨rfl, rfl⟩
                go_wp2_with fail
                rw [decide_eq_false (show ¬ hi ≤ m by omega)]
                refine HNr.out.mono ?_
                rintro e w' ⟨T, x, rfl, rfl⟩
                go_wp2_with fail
                exact ⟨rfl, Or.inr ⟨HF2.out, T, x, rfl⟩, B1.out⟩
            · have HF2 := Lib.hid (hbad.out (Or.inr (by rw [hnm.out, decide_eq_false g1, Bool.false_and])))
              go_wp2_with fail
              refine CMin.out.mono ?_
              rintro e w' ⟨rfl, rfl⟩
              go_wp2_with fail
              refine HNr.out.mono ?_
              rintro e w' ⟨T, x, rfl, rfl⟩
              go_wp2_with fail
              exact ⟨rfl, Or.inr ⟨HF2.out, T, x, rfl⟩, B1.out⟩
          · have HF2 := Lib.hid (hbad.out (Or.inl hkw))
            have kne : ¬ (k : Int) = (w0 : Int) := by omega
            have HNr := Lib.hid (require_no W1 (HRs.out _ B1.out))
            go_wp2_with fail
            refine HNr.out.mono ?_
            rintro e w' ⟨T, x, rfl, rfl⟩
            go_wp2_with fail
            exact ⟨rfl, Or.inr ⟨HF2.out, T, x, rfl⟩, B1.out⟩
        · obtain rfl : y = n := by omega
          have HR : Hid (r = true) := by
            show r = true
            rw [HV.out, HG.out HJ.out]
            rfl
          go_wp2_with fail
          go_ret
          exact ⟨Or.inl ⟨HR.out, rfl⟩, B1.out⟩
    · have C := Lib.hid (fun W => blankMatrix_no (w0 : Int) (n : Int) W (by omega))
      unfold RetMat at C
      have HR : Hid (r = false) := by
        show r = false
        rw [HV.out]
        by_cases h1 : n ≤ 16
        · rw [inB_no (n := (w0 : Int)) (a := 1) (b := 16) (by omega)]; simp
        · rw [inB_no (n := (n : Int)) (a := 1) (b := 16) (by omega)]; simp
      obtain ⟨M, hM⟩ : ∃ M, mcells 0 0 (fun _ => 0) = M := ⟨_, rfl⟩
      have HI : Hid ((Tryd.prog.info? 95).map (·.size) = some M.size) := by show _ = _; rw [← hM]; exact infoM
      have HZ : Hid (zeros.size = M.size) := by show _ = _; rw [← hM]; rfl
      have HO : Hid (M.all (·.oneCell') = true) := by show _ = _; rw [← hM]; exact mcells_one _ _ _
      rw [hM] at C
      clear hM
      go_enter Tryd.func98, Tryd.ntmps98
      go_wp2_with fail
      refine (require_yes _).mono ?_
      rintro e w' ⟨rfl, hw'⟩
      obtain rfl := hw'.symm
      go_wp2_with fail
      refine (C.out _).mono ?_
      rintro e w1 ⟨rfl, hb1⟩
      have B1 := Lib.hid (hb1.alloc hb1.size (.cells M 95))
      clear hb1
      go_wp2_with (refine wpList_store_new w1 rfl 95 _ _ rfl M rfl rfl 95 zeros HI.out HZ.out HO.out ?_; refine Hid.out ?_)
      refine Lib.hid ?_
      go_wp2_with fail
      refine (require_no _ (HRs.out _ B1.out)).mono ?_
      rintro e w' ⟨T, x, rfl, rfl⟩
      go_wp2_with fail
      exact ⟨rfl, Or.inr ⟨HR.out, T, x, rfl⟩, B1.out⟩
  · have h0 : gs.length = 0 := by omega
    have HR : Hid (r = false) := by
      show r = false
      rw [HV.out, inB_no (n := (gs.length : Int)) (a := 1) (b := 16) (by omega)]; simp
    rw [h0]
    clear HV HBad HNM HG hop hv hf hn h0 hN
    have HNr := Lib.hid (require_no w hr)
    clear hr
    go_enter Tryd.func98, Tryd.ntmps98
    go_wp2_with fail
    refine HNr.out.mono ?_
    rintro e w' ⟨T, x, rfl, rfl⟩
    go_wp2_with fail
    exact ⟨rfl, Or.inr ⟨HR.out, T, x, rfl⟩, Below.refl _ _⟩

set_option maxHeartbeats 1000000 in
theorem requiredGrey_any (v : Value) (gs : List (List Int)) (w : World) (hN : gs.length ≤ 1048576) (hf : ∀ i, i < gs.length → (rowF gs i).length ≤ 1048576) (hv : SlG w v gs) (hr : NoRes w) :
    Calls Tryd.prog 44 #[.agg #[v]] w (ReqRows 99 gs v w) := by
  have hb0 := Joins.below_alloc1 w (.cells #[v] 27)
  have C := Lib.hid (requiredRows_any v gs 99 _ hN hf (hv.below hb0) (hr.below hb0))
  have HB0 := Lib.hid hb0
  unfold ReqRows at C ⊢
  clear hf hv hr hb0
  go_enter Tryd.func44, Tryd.ntmps44
  go_wp2_with fail
  refine C.out.mono ?_
  rintro e w' ⟨(⟨h1, rfl⟩ | ⟨h1, T, x, rfl⟩), hb⟩
  · have HB := Lib.hid (HB0.out.trans (hb.mono (by simp)))
    have H1 := Lib.hid h1
    clear hb h1
    go_wp2
    go_ret
    exact ⟨Or.inl ⟨H1.out, rfl⟩, HB.out⟩
  · have HB := Lib.hid (HB0.out.trans (hb.mono (by simp)))
    have H1 := Lib.hid h1
    clear hb h1
    go_wp2
    exact ⟨rfl, Or.inr ⟨H1.out, T, x, rfl⟩, HB.out⟩

theorem call_ValidGrey1 (args : Array Value) (W : World) : (callFunc 43 args).run Tryd.prog W = .ok (.enter 43 args) W := by simp [go_sem]

set_option maxHeartbeats 1000000 in
theorem impl_ValidGrey (v : Value) (gs : List (List Int)) (w : World) (hN : gs.length ≤ 1048576) (hf : ∀ i, i < gs.length → (rowF gs i).length ≤ 1048576) (hv : SlG w v gs) (hr : NoRes w) :
    Calls Tryd.prog 14 #[.agg #[v]] w (SaysB (vG 99 gs) w) := by
  have hmf : ∀ (fn : Fn) (first cap : Array Value) (w : World), (Instr.makeFunc fn first cap).run Tryd.prog w = .ok (.func fn first cap) w := fun _ _ _ _ => rfl
  have hb0 := Joins.below_alloc1 w (.cells #[v] 27)
  have hc0 := cell_of_one (heap_alloc_last w (.cells #[v] 27))
  have CW : ∀ W, Below (w.alloc (.cells #[v] 27)).heap.size (w.alloc (.cells #[v] 27)) W → Calls Tryd.prog 43 #[.pointer (some ⟨w.heap.size, 0, none⟩)] W (ReqRows 99 gs v W) := fun W hb => by
    have c0 := cell_kept hb hc0
    have lw := blk_lt c0
    have C := Lib.hid (requiredGrey_any v gs W hN hf ((hv.below hb0).below hb) ((hr.below hb0).below hb))
    unfold ReqRows at C ⊢
    go_enter Tryd.func43, Tryd.ntmps43
    go_wp2_with fail
    refine C.out.mono ?_
    rintro e w' ⟨(⟨h1, rfl⟩ | ⟨h1, T, x, rfl⟩), hb⟩
    · have HB := Lib.hid hb
      have H1 := Lib.hid h1
      clear hb h1
      go_wp2
      go_ret
      exact ⟨Or.inl ⟨H1.out, rfl⟩, HB.out⟩
    · have HB := Lib.hid hb
      have H1 := Lib.hid h1
      clear hb h1
      go_wp2
      exact ⟨rfl, Or.inr ⟨H1.out, T, x, rfl⟩, HB.out⟩
  have HB0 := Lib.hid hb0
  obtain ⟨ao, cap, hform⟩ := SlR.form hv
  cases hok : vG 99 gs with
  | true =>
    have C := Lib.hid (attemptPR_yes 43 #[.pointer (some ⟨w.heap.size, 0, none⟩)] (w.alloc (.cells #[v] 27)) (fun _ _ _ => True) call_ValidGrey1 (fun W hb => (CW W hb).mono fun e w' h => by
      rcases h.1 with ⟨_, h1⟩ | ⟨h1, _⟩
      · exact ⟨ao, gs.length, cap, by rw [h1, hform], trivial, h.2⟩
      · rw [hok] at h1; cases h1))
    clear CW hv hf hr hc0 hb0 hok hform
    go_enter Tryd.func14, Tryd.ntmps14
    go_wp2_with fail
    refine C.out.mono ?_
    rintro e w' ⟨a2, n2, c2, w1, rfl, _, hb, rfl, _, _⟩
    have HB : Hid (Below w.heap.size w ((w1.setCell ⟨(w.alloc (.cells #[v] 27)).heap.size, 0, none⟩ (.slice a2 n2 c2)).setCell ⟨(w.alloc (.cells #[v] 27)).heap.size + 1, 0, none⟩ (.bool true))) :=
      ((HB0.out.trans (hb.mono HB0.out.size)).setCell (by simp) _).setCell (by simp; omega) _
    clear hb
    obtain ⟨W9, hW9⟩ : ∃ W9, ((w1.setCell ⟨(w.alloc (.cells #[v] 27)).heap.size, 0, none⟩ (.slice a2 n2 c2)).setCell ⟨(w.alloc (.cells #[v] 27)).heap.size + 1, 0, none⟩ (.bool true)) = W9 := ⟨_, rfl⟩
    rw [hW9] at HB ⊢
    clear hW9
    go_wp2
    go_ret
    exact ⟨rfl, HB.out⟩
  | false =>
    have C := Lib.hid (attemptPR_no 43 #[.pointer (some ⟨w.heap.size, 0, none⟩)] (w.alloc (.cells #[v] 27)) call_ValidGrey1 (fun W hb => (CW W hb).mono fun e w' h => by
      rcases h.1 with ⟨h1, _⟩ | ⟨_, h1⟩
      · rw [hok] at h1; cases h1
      · exact ⟨h1, h.2⟩))
    clear CW hv hf hr hc0 hb0 hok hform
    go_enter Tryd.func14, Tryd.ntmps14
    go_wp2_with fail
    refine C.out.mono ?_
    rintro e w' ⟨rfl, hb⟩
    have HB := Lib.hid (HB0.out.trans (hb.mono HB0.out.size))
    clear hb
    go_wp2
    go_ret
    exact ⟨rfl, HB.out⟩
end Go.Proofs.YthkmfiipmhlbjaaDoor
