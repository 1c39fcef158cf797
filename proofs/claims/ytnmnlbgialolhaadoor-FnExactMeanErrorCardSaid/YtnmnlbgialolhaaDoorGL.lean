/- Contracts of single functions, and plain lemmas, on which the exact laws of this seat rest; each holds under the conditions that it states. -/
import Derived.Test.YtnmnlbgialolhaaDoorGD
import Derived.Test.YtnmnlbgialolhaaDoorR1
import Derived.Test.YtnmnlbgialolhaaDoorJa
import Derived.Test.YtnmnlbgialolhaaDoorCc
import Derived.Test.YtnmnlbgialolhaaDoorRc
import Derived.Deep.DeepCutAuto
import Derived.Test.YtnmnlbgialolhaaDoorMo
import Derived.BigQuiet
import Derived.Deep.QuietTactic
namespace Go.Proofs.YtnmnlbgialolhaaDoor
set_option linter.unusedVariables false
set_option linter.unusedSimpArgs false
open Go.RowKit

/-- rows that are valid come back as they are; others are given up -/
def ReqRows (m : Int) (gs : List (List Int)) (v : Value) (w : World) (e : Ending) (w' : World) : Prop :=
  ((vG m gs = true ∧ e = .returned v) ∨ (vG m gs = false ∧ ∃ T x, e = .panicked [{ v := .iface T x, recovered := false }])) ∧ Below w.heap.size w w'

set_option maxHeartbeats 4000000 in
set_option maxRecDepth 100000 in
theorem requiredRows_any (v : Value) (gs : List (List Int)) (m : Int) (w : World) (hN : gs.length ≤ 1048576) (hf : ∀ i, i < gs.length → (rowF gs i).length ≤ 1048576) (hv : SlG w v gs) (hr : NoRes w) :
    Calls Tryd.prog 105 #[v, .int .i64 m] w (ReqRows m gs v w) := by
  obtain ⟨ao, cap, rfl, hop⟩ := hv.open'
  have HBad := Lib.hid (fun i hi h => @rowsB_bad m gs i hi h)
  have HNM := Lib.hid (fun i => @numsB_mm (rowF gs i) m)
  have HG := Lib.hid (@rowsB_good m gs)
  have HV : Hid (vG m gs = (inB (gs.length : Int) 1 16 && inB ((rowF gs 0).length : Int) 1 16 && rowsB m gs gs.length)) := rfl
  have HRs : Hid (∀ W, Below w.heap.size w W → NoRes W) := fun W hb => hr.below hb
  unfold ReqRows
  obtain ⟨r, hre⟩ : ∃ r, vG m gs = r := ⟨_, rfl⟩
  rw [hre] at HBad HV ⊢
  by_cases hn : 1 ≤ gs.length
  · obtain ⟨b, off, rfl, hb, hc⟩ := hop (by omega)
    have HF := Lib.hid hf
    have HS : Hid (∀ W, Below w.heap.size w W → ∀ i, i < gs.length → ∃ (ay : Option Addr) (cy : Nat), W.cell? ⟨b, off + i, none⟩ = some (.slice ay (rowF gs i).length cy) ∧ (0 < (rowF gs i).length → ∃ b2 o2, ay = some ⟨b2, o2, none⟩ ∧ b2 < W.heap.size ∧ ∀ j, j < (rowF gs i).length → W.cell? ⟨b2, o2 + j, none⟩ = some (.int .i64 ((rowF gs i).getD j 0)))) := fun W hbe i hi => by
      obtain ⟨ay, cy, h1, _, h3⟩ := hc i hi
      refine ⟨ay, cy, cell_kept hbe h1, fun hp => ?_⟩
      obtain ⟨b2, o2, e, hb2, h4⟩ := h3 hp
      exact ⟨b2, o2, e, Nat.lt_of_lt_of_le hb2 hbe.size, fun j hj => cell_kept hbe (h4 j hj)⟩
    obtain ⟨a0, c0, h0, _⟩ := hc 0 (by omega)
    rw [Nat.add_zero] at h0
    obtain ⟨n, hnn⟩ : ∃ n, gs.length = n := ⟨_, rfl⟩
    rw [hnn] at hn HF HS HBad HG HV hN
    obtain ⟨w0, hw0⟩ : ∃ k, (rowF gs 0).length = k := ⟨_, rfl⟩
    rw [hw0] at h0 HBad HG HV
    have npos : (0 : Int) < (n : Int) := by omega
    have np : 0 < n := by omega
    rw [hnn]
    have hw0b : w0 ≤ 1048576 := by rw [← hw0]; exact hf 0 (by omega)
    clear hc hf hop hv hre hnn hw0 hr
    by_cases hw : (1 ≤ w0 ∧ w0 ≤ 16) ∧ n ≤ 16
    · have C := Lib.hid (fun W => blankMatrix_yes (w0 : Int) (n : Int) W (by omega) (by omega))
      unfold RetMat at C
      rw [inB_yes (n := (n : Int)) (a := 1) (b := 16) (by omega) (by omega), inB_yes (n := (w0 : Int)) (a := 1) (b := 16) (by omega) (by omega)] at HV
      obtain ⟨M, hM⟩ : ∃ M, mcells (w0 : Int) (n : Int) (fun _ => 0) = M := ⟨_, rfl⟩
      have HI : Hid ((Tryd.prog.info? 63).map (·.size) = some M.size) := by show _ = _; rw [← hM]; exact infoM
      have HZ : Hid (zeros.size = M.size) := by show _ = _; rw [← hM]; rfl
      have HO : Hid (M.all (·.oneCell') = true) := by show _ = _; rw [← hM]; exact mcells_one _ _ _
      have HM0 : Hid (∀ W : World, ∀ g, W.heap[g]? = some (.cells M 63 (0, 0)) → W.cell? ⟨g, 0, none⟩ = some (.int .i64 w0)) := fun W g h => by
        rw [← hM] at h
        rw [Joins.cell_of_block h 0]; rfl
      rw [hM] at C
      clear hM
      go_enter Tryd.func105, Tryd.ntmps105
      go_wp2_with fail
      refine (require_yes _).mono ?_
      rintro e w' ⟨rfl, hw'⟩
      obtain rfl := hw'.symm
      go_wp2_with fail
      refine (C.out _).mono ?_
      rintro e w1 ⟨rfl, hb1⟩
      have M1 := Lib.hid (heap_alloc_last w1 (.cells M 63))
      have B1 := Lib.hid (hb1.alloc hb1.size (.cells M 63))
      clear hb1
      obtain ⟨W1, hW1⟩ : ∃ W1, w1.alloc (.cells M 63) = W1 := ⟨_, rfl⟩
      rw [hW1] at M1 B1
      have HW1 := Lib.hid hW1
      clear hW1
      go_wp2_with (refine wpList_store_new w1 rfl 63 _ _ rfl M rfl rfl 63 zeros HI.out HZ.out HO.out ?_; refine Hid.out ?_)
      rw [HW1.out]
      refine Lib.hid ?_
      go_wp2_with fail
      refine (require_yes _).mono ?_
      rintro e w' ⟨rfl, hw'⟩
      obtain rfl := hw'.symm
      go_wp2_with fail
      go_loopw [27] (fun yv wr => ∃ y : Nat, y ≤ n ∧ yv = .int .i64 y ∧ Hid (∀ i, i < y → (rowF gs i).length = w0 ∧ numsB m (rowF gs i) = true) ∧ W1 = wr) (fun yv _ => n - (intOf yv).toNat)
      case atStart => exact ⟨0, Nat.zero_le _, rfl, fun i h => absurd h (Nat.not_lt_zero i), rfl⟩
      case round =>
        obtain ⟨y, hy, rfl, HJ, rfl⟩ := hrel
        have lb : b < W1.heap.size := Nat.lt_of_lt_of_le hb B1.out.size
        by_cases hlt : y < n
        · have yn : (y : Int) < (n : Int) := by omega
          have y0 : (0 : Int) ≤ (y : Int) := by omega
          obtain ⟨ay, cy, hcy, hin⟩ := HS.out _ B1.out y hlt
          have hfy := HF.out y hlt
          have hbad := Lib.hid (HBad.out y hlt)
          have hnm := Lib.hid (HNM.out y)
          have hm0 := HM0.out _ _ M1.out
          have lm := (Array.getElem?_eq_some_iff.1 M1.out).1
          obtain ⟨q, hq⟩ : ∃ q, rowF gs y = q := ⟨_, rfl⟩
          rw [hq] at hcy hin hfy hbad hnm
          have HQ := Lib.hid hq
          obtain ⟨k, hk⟩ : ∃ k, q.length = k := ⟨_, rfl⟩
          rw [hk] at hcy hin hfy hbad hnm
          have HK := Lib.hid hk
          have HIn := Lib.hid hin
          have hfm : k ≤ maxLen := by unfold maxLen; omega
          clear hq hk hin
          by_cases hkw : k = w0
          · subst hkw
            have kpos : 0 < k := by omega
            obtain ⟨b2, o2, rfl, hb2, hnum⟩ := HIn.out kpos
            have CMin := Lib.hid (sMin_any b2 o2 k cy q W1 kpos hfm hb2 hnum)
            have CMax := Lib.hid (sMax_any b2 o2 k cy q W1 kpos hfm hb2 hnum)
            have hnm := Lib.hid (hnm.out kpos)
            have HNr := Lib.hid (require_no W1 (HRs.out _ B1.out))
            have HN : Hid (numsB m q = true → ∀ i, i < y + 1 → (rowF gs i).length = k ∧ numsB m (rowF gs i) = true) := fun hq i hi => by
              by_cases e : i = y
              · rw [e, HQ.out]
                exact ⟨HK.out, hq⟩
              · exact HJ.out i (by omega)
            obtain ⟨lo, hlo⟩ : ∃ z, mnK q k = z := ⟨_, rfl⟩
            obtain ⟨hi, hhi⟩ : ∃ z, mxK q k = z := ⟨_, rfl⟩
            rw [hlo] at CMin hnm
            rw [hhi] at CMax hnm
            clear hnum hlo hhi hb2
            by_cases g1 : 0 ≤ lo
            · by_cases g2 : hi ≤ m
              · have HN2 := Lib.hid (HN.out (by rw [hnm.out, decide_eq_true g1, decide_eq_true g2]; rfl))
                go_wp2_with fail
                refine CMin.out.mono ?_
                rintro e w' ⟨rfl, rfl⟩
                go_wp2_with fail
                refine CMax.out.mono ?_
                rintro e w' ⟨rfl, rfl⟩
                go_wp2_with fail
                refine (require_yes _).mono ?_
                rintro e w' ⟨rfl, hw'⟩
                obtain rfl := hw'.symm
                go_wp2_with fail
                go_roundw
                case rel => exact ⟨y + 1, by omega, by go_num, HN2, (by trivial)⟩
                case measure => simp [intOf]; omega
              · have HF2 := Lib.hid (hbad.out (Or.inr (by rw [hnm.out, decide_eq_false g2, Bool.and_false])))
                go_wp2_with fail
                refine CMin.out.mono ?_
                rintro e w' ⟨rfl, rfl⟩
                go_wp2_with fail
                refine CMax.out.mono ?_
                rintro e w' ⟨rfl, rfl⟩
                go_wp2_with fail
                rw [decide_eq_false (show ¬ hi ≤ m by omega)]
                refine HNr.out.mono ?_
                rintro e w' ⟨T, x, rfl, rfl⟩
                go_wp2_with fail
                exact ⟨rfl, Or.inr ⟨HF2.out, T, x, rfl⟩, B1.out⟩
            · have HF2 := Lib.hid (hbad.out (Or.inr (by rw [hnm.out, decide_eq_false g1, Bool.false_and])))
              go_wp2_with fail
              refine CMin.out.mono ?_
              rintro e w' ⟨rfl, rfl⟩
              go_wp2_with fail
              refine HNr.out.mono ?_
              rintro e w' ⟨T, x, rfl, rfl⟩
              go_wp2_with fail
              exact ⟨rfl, Or.inr ⟨HF2.out, T, x, rfl⟩, B1.out⟩
          · have HF2 := Lib.hid (hbad.out (Or.inl hkw))
            have kne : ¬ (k : Int) = (w0 : Int) := by omega
            have HNr := Lib.hid (require_no W1 (HRs.out _ B1.out))
            go_wp2_with fail
            refine HNr.out.mono ?_
            rintro e w' ⟨T, x, rfl, rfl⟩
            go_wp2_with fail
            exact ⟨rfl, Or.inr ⟨HF2.out, T, x, rfl⟩, B1.out⟩
        · obtain rfl : y = n := by omega
          have HR : Hid (r = true) := by
            show r = true
            rw [HV.out, HG.out HJ.out]
            rfl
          go_wp2_with fail
          go_ret
          exact ⟨Or.inl ⟨HR.out, rfl⟩, B1.out⟩
    · have C := Lib.hid (fun W => blankMatrix_no (w0 : Int) (n : Int) W (by omega))
      unfold RetMat at C
      have HR : Hid (r = false) := by
        show r = false
        rw [HV.out]
        by_cases h1 : n ≤ 16
        · rw [inB_no (n := (w0 : Int)) (a := 1) (b := 16) (by omega)]; simp
        · rw [inB_no (n := (n : Int)) (a := 1) (b := 16) (by omega)]; simp
      obtain ⟨M, hM⟩ : ∃ M, mcells 0 0 (fun _ => 0) = M := ⟨_, rfl⟩
      have HI : Hid ((Tryd.prog.info? 63).map (·.size) = some M.size) := by show _ = _; rw [← hM]; exact infoM
      have HZ : Hid (zeros.size = M.size) := by show _ = _; rw [← hM]; rfl
      have HO : Hid (M.all (·.oneCell') = true) := by show _ = _; rw [← hM]; exact mcells_one _ _ _
      rw [hM] at C
      clear hM
      go_enter Tryd.func105, Tryd.ntmps105
      go_wp2_with fail
      refine (require_yes _).mono ?_
      rintro e w' ⟨rfl, hw'⟩
      obtain rfl := hw'.symm
      go_wp2_with fail
      refine (C.out _).mono ?_
      rintro e w1 ⟨rfl, hb1⟩
      have B1 := Lib.hid (hb1.alloc hb1.size (.cells M 63))
      clear hb1
      go_wp2_with (refine wpList_store_new w1 rfl 63 _ _ rfl M rfl rfl 63 zeros HI.out HZ.out HO.out ?_; refine Hid.out ?_)
      refine Lib.hid ?_
      go_wp2_with fail
      refine (require_no _ (HRs.out _ B1.out)).mono ?_
      rintro e w' ⟨T, x, rfl, rfl⟩
      go_wp2_with fail
      exact ⟨rfl, Or.inr ⟨HR.out, T, x, rfl⟩, B1.out⟩
  · have h0 : gs.length = 0 := by omega
    have HR : Hid (r = false) := by
      show r = false
      rw [HV.out, inB_no (n := (gs.length : Int)) (a := 1) (b := 16) (by omega)]; simp
    rw [h0]
    clear HV HBad HNM HG hop hv hf hn h0 hN
    have HNr := Lib.hid (require_no w hr)
    clear hr
    go_enter Tryd.func105, Tryd.ntmps105
    go_wp2_with fail
    refine HNr.out.mono ?_
    rintro e w' ⟨T, x, rfl, rfl⟩
    go_wp2_with fail
    exact ⟨rfl, Or.inr ⟨HR.out, T, x, rfl⟩, Below.refl _ _⟩

set_option maxHeartbeats 1000000 in
theorem requiredGrey_any (v : Value) (gs : List (List Int)) (w : World) (hN : gs.length ≤ 1048576) (hf : ∀ i, i < gs.length → (rowF gs i).length ≤ 1048576) (hv : SlG w v gs) (hr : NoRes w) :
    Calls Tryd.prog 67 #[.agg #[v]] w (ReqRows 99 gs v w) := by
  have hb0 := Joins.below_alloc1 w (.cells #[v] 35)
  have C := Lib.hid (requiredRows_any v gs 99 _ hN hf (hv.below hb0) (hr.below hb0))
  have HB0 := Lib.hid hb0
  unfold ReqRows at C ⊢
  clear hf hv hr hb0
  go_enter Tryd.func67, Tryd.ntmps67
  go_wp2_with fail
  refine C.out.mono ?_
  rintro e w' ⟨(⟨h1, rfl⟩ | ⟨h1, T, x, rfl⟩), hb⟩
  · have HB := Lib.hid (HB0.out.trans (hb.mono (by simp)))
    have H1 := Lib.hid h1
    clear hb h1
    go_wp2
    go_ret
    exact ⟨Or.inl ⟨H1.out, rfl⟩, HB.out⟩
  · have HB := Lib.hid (HB0.out.trans (hb.mono (by simp)))
    have H1 := Lib.hid h1
    clear hb h1
    go_wp2
    exact ⟨rfl, Or.inr ⟨H1.out, T, x, rfl⟩, HB.out⟩

end Go.Proofs.YtnmnlbgialolhaaDoor

/- Contracts of single functions, and plain lemmas, on which the exact laws of this seat rest; each holds under the conditions that it states. -/
namespace Go.Proofs.YtnmnlbgialolhaaDoor
set_option linter.unusedVariables false
set_option linter.unusedSimpArgs false
open Go.RowKit

/-! ### planes: twenty-six cells: the width, the height, twenty-four words -/
def pcells (a b : Int) (f : Nat → Int) : Array Value := #[.int .i64 a, .int .i64 b, .int .u32 (f 0), .int .u32 (f 1), .int .u32 (f 2), .int .u32 (f 3), .int .u32 (f 4), .int .u32 (f 5), .int .u32 (f 6), .int .u32 (f 7), .int .u32 (f 8), .int .u32 (f 9), .int .u32 (f 10), .int .u32 (f 11), .int .u32 (f 12), .int .u32 (f 13), .int .u32 (f 14), .int .u32 (f 15), .int .u32 (f 16), .int .u32 (f 17), .int .u32 (f 18), .int .u32 (f 19), .int .u32 (f 20), .int .u32 (f 21), .int .u32 (f 22), .int .u32 (f 23)]
theorem pcells_size (a b : Int) (f : Nat → Int) : (pcells a b f).size = 26 := rfl
theorem pcells_one (a b : Int) (f : Nat → Int) : (pcells a b f).all (·.oneCell') = true := by simp [pcells, Value.oneCell']
theorem pcells_word (a b : Int) (f : Nat → Int) (j : Nat) (h : j < 24) : (pcells a b f)[2 + j]? = some (.int .u32 (f j)) := by
  have : j = 0 ∨ j = 1 ∨ j = 2 ∨ j = 3 ∨ j = 4 ∨ j = 5 ∨ j = 6 ∨ j = 7 ∨ j = 8 ∨ j = 9 ∨ j = 10 ∨ j = 11 ∨ j = 12 ∨ j = 13 ∨ j = 14 ∨ j = 15 ∨ j = 16 ∨ j = 17 ∨ j = 18 ∨ j = 19 ∨ j = 20 ∨ j = 21 ∨ j = 22 ∨ j = 23 := by omega
  rcases this with rfl | rfl | rfl | rfl | rfl | rfl | rfl | rfl | rfl | rfl | rfl | rfl | rfl | rfl | rfl | rfl | rfl | rfl | rfl | rfl | rfl | rfl | rfl | rfl <;> rfl
theorem pcells_set (a b : Int) (f : Nat → Int) (j : Nat) (h : j < 24) (x : Int) : (pcells a b f).setIfInBounds (2 + j) (.int .u32 x) = pcells a b (fun i => if i = j then x else f i) := by
  have : j = 0 ∨ j = 1 ∨ j = 2 ∨ j = 3 ∨ j = 4 ∨ j = 5 ∨ j = 6 ∨ j = 7 ∨ j = 8 ∨ j = 9 ∨ j = 10 ∨ j = 11 ∨ j = 12 ∨ j = 13 ∨ j = 14 ∨ j = 15 ∨ j = 16 ∨ j = 17 ∨ j = 18 ∨ j = 19 ∨ j = 20 ∨ j = 21 ∨ j = 22 ∨ j = 23 := by omega
  rcases this with rfl | rfl | rfl | rfl | rfl | rfl | rfl | rfl | rfl | rfl | rfl | rfl | rfl | rfl | rfl | rfl | rfl | rfl | rfl | rfl | rfl | rfl | rfl | rfl <;> rfl
theorem pcells_congr (a b : Int) {f g : Nat → Int} (h : ∀ j, j < 24 → f j = g j) : pcells a b f = pcells a b g := by
  unfold pcells
  rw [h 0 (by omega), h 1 (by omega), h 2 (by omega), h 3 (by omega), h 4 (by omega), h 5 (by omega), h 6 (by omega), h 7 (by omega), h 8 (by omega), h 9 (by omega), h 10 (by omega), h 11 (by omega), h 12 (by omega), h 13 (by omega), h 14 (by omega), h 15 (by omega), h 16 (by omega), h 17 (by omega), h 18 (by omega), h 19 (by omega), h 20 (by omega), h 21 (by omega), h 22 (by omega), h 23 (by omega)]
/-- the plane of words -/
def pl (a b : Nat) (g : Nat → Nat) : Array Value := pcells a b (fun j => (g j : Int))
theorem pl_size (a b : Nat) (g : Nat → Nat) : (pl a b g).size = 26 := rfl
theorem pl_one (a b : Nat) (g : Nat → Nat) : (pl a b g).all (·.oneCell') = true := pcells_one _ _ _
theorem pl_word (a b : Nat) (g : Nat → Nat) (j : Nat) (h : j < 24) : (pl a b g)[2 + j]? = some (.int .u32 (g j)) := pcells_word _ _ _ j h
theorem pl_congr (a b : Nat) {f g : Nat → Nat} (h : ∀ j, j < 24 → f j = g j) : pl a b f = pl a b g := pcells_congr _ _ (fun j hj => by rw [h j hj])
theorem pl_put (a b : Nat) (g : Nat → Nat) (q : Nat) (hq : q < 24) (x : Nat) : (pl a b g).setIfInBounds (2 + q) (.int .u32 x) = pl a b (fun j => if j = q then x else g j) := by
  unfold pl
  rw [pcells_set _ _ _ q hq]
  congr 1
  funext j
  show _ = ((if j = q then x else g j : Nat) : Int)
  split <;> rfl
def zerosP : Array Value := pcells 0 0 (fun _ => 0)
/-- a plane's words fit -/
def PlW (g : Nat → Nat) : Prop := ∀ j, g j < 16777216
def jnW (k : Nat) (W V : Nat) : Nat := if k = 0 then jW0 W V else if k = 1 then jW1 W V else if k = 2 then jW2 W V else jW3 W V
def jnF (k : Nat) (p q : Bool) : Bool := if k = 0 then jF0 p q else if k = 1 then jF1 p q else if k = 2 then jF2 p q else jF3 p q
theorem jn_bit (k W V x : Nat) (hV : V < 4294967296) (hx : x < 32) : (jnW k W V).testBit x = jnF k (W.testBit x) (V.testBit x) := by
  unfold jnW jnF
  split
  · exact jB0 W V x hV hx
  · split
    · exact jB1 W V x hV hx
    · split
      · exact jB2 W V x hV hx
      · exact jB3 W V x hV hx
theorem jn_lt (k W V : Nat) (hW : W < 16777216) (hV : V < 16777216) : jnW k W V < 16777216 := by
  unfold jnW jW0 jW1 jW2 jW3
  split
  · exact Nat.lt_of_le_of_lt Nat.and_le_left hW
  · split
    · exact Nat.or_lt_two_pow (n := 24) hW hV
    · split
      · exact Nat.xor_lt_two_pow (n := 24) hW hV
      · exact Nat.lt_of_le_of_lt Nat.and_le_left hW
section
variable {P : Program} {ops : Array Oper} {rest : List Oper} {o : Oper} {a : Act} {w : World} {Q : Exit → Act → World → Prop}
/-- a struct is built, as is known beforehand -/
theorem wpList_build_as (hg : o.guard = none) (t : TypeId) (parts : Array (Nat × Operand)) (ho : o.op = .build t parts) (vals : List (Nat × Value)) (cells : Array Value)
    (hv : parts.toList.map (fun (i, x) => (i, a.eval x)) = vals) (hb : P.built t vals = some cells) (h : wpList P ops Q rest (a.put o.dst (.agg cells)) w) : wpList P ops Q (o :: rest) a w :=
  wpList_build hg t parts ho (by rw [Array.toList_map, hv, hb]; rfl) (by rw [Array.toList_map, hv, hb]; exact h)
end
/-! ### the plane of a matrix -/
def plOf (g : Nat → Nat) (Y j : Nat) : Nat := if 4 ≤ j ∧ j < 4 + Y then g (j - 4) * 16 else 0
theorem plOf_zero (g : Nat → Nat) (a b : Nat) : pl a b (plOf g 0) = pcells a b (fun _ => 0) := by
  unfold pl
  refine pcells_congr _ _ (fun j _ => ?_)
  unfold plOf
  rw [if_neg (by omega)]
  rfl
theorem plOf_step (g : Nat → Nat) (a b y : Nat) (hy : y < 16) : (pl a b (plOf g y)).setIfInBounds (2 + (y + 4)) (.int .u32 ((g y * 16 : Nat) : Int)) = pl a b (plOf g (y + 1)) := by
  rw [pl_put a b _ (y + 4) (by omega)]
  refine pl_congr a b (fun j hj => ?_)
  unfold plOf
  by_cases h : j = y + 4
  · subst h
    rw [if_pos rfl, if_pos (by omega)]
    congr 2
  · rw [if_neg h]
    by_cases h2 : 4 ≤ j ∧ j < 4 + y
    · rw [if_pos h2, if_pos (by omega)]
    · rw [if_neg h2, if_neg (by omega)]

end Go.Proofs.YtnmnlbgialolhaaDoor

/- Contracts of single functions, and plain lemmas, on which the exact laws of this seat rest; each holds under the conditions that it states. -/
namespace Go.Proofs.YtnmnlbgialolhaaDoor
set_option linter.unusedVariables false
set_option linter.unusedSimpArgs false
open Go.RowKit
attribute [local go_sem] Oper.semAt_some

/-! ### the pixels of a grey picture -/
theorem built_m2 (a b : Int) : Tryd.prog.built 63 [(0, .int .i64 a), (1, .int .i64 b)] = some (mcells a b (fun _ => 0)) := by kernel_rfl
set_option maxHeartbeats 1000000 in
theorem sizeG_any {m : Int} (v : Value) (gs : List (List Int)) (w : World) (V : VG m gs) (hv : SlG w v gs) :
    Calls Tryd.prog 69 #[v] w (fun e w' => e = .returned (.agg (mcells (rowF gs 0).length gs.length (fun _ => 0))) ∧ Below w.heap.size w w') := by
  obtain ⟨ao, cap, rfl, ho⟩ := hv.open'
  obtain ⟨b, off, rfl, hbl, hrow⟩ := ho V.n1
  obtain ⟨ay, cy, h1, _, _⟩ := hrow 0 V.n1
  have h1 : w.cell? ⟨b, off, none⟩ = some (.slice ay (rowF gs 0).length cy) := h1
  have hn1 := V.n1
  obtain ⟨n, hn⟩ : ∃ n, gs.length = n := ⟨_, rfl⟩
  rw [hn] at hn1 ⊢
  obtain ⟨a, ha⟩ : ∃ a, (rowF gs 0).length = a := ⟨_, rfl⟩
  rw [ha] at h1 ⊢
  have kn : (0 : Int) < (n : Int) := by omega
  have HBl := Lib.hid (built_m2 a n)
  have HI4 : Hid ((Tryd.prog.info? 63).map (·.size) = some (mcells a n (fun _ => 0)).size) := infoM
  have HI5 : Hid (zeros.size = (mcells a n (fun _ => 0)).size) := rfl
  have HI6 : Hid ((mcells a n (fun _ => 0)).all (·.oneCell') = true) := mcells_one a n (fun _ => 0)
  obtain ⟨C0, hC0⟩ : ∃ C, mcells (a : Int) (n : Int) (fun _ => 0) = C := ⟨_, rfl⟩
  rw [hC0] at HBl HI4 HI5 HI6 ⊢
  obtain ⟨W0, hW0⟩ : ∃ W0, w.alloc (.cells #[.int .i64 0, .int .i64 0, .int .u32 0, .int .u32 0, .int .u32 0, .int .u32 0, .int .u32 0, .int .u32 0, .int .u32 0, .int .u32 0, .int .u32 0, .int .u32 0, .int .u32 0, .int .u32 0, .int .u32 0, .int .u32 0, .int .u32 0, .int .u32 0] 63) = W0 := ⟨_, rfl⟩
  have hz : zeros = #[.int .i64 0, .int .i64 0, .int .u32 0, .int .u32 0, .int .u32 0, .int .u32 0, .int .u32 0, .int .u32 0, .int .u32 0, .int .u32 0, .int .u32 0, .int .u32 0, .int .u32 0, .int .u32 0, .int .u32 0, .int .u32 0, .int .u32 0, .int .u32 0] := rfl
  have hb0 : Below w.heap.size w W0 := by rw [← hW0]; exact Joins.below_alloc1 _ _
  have hr0 : W0.heap[w.heap.size]? = some (.cells zeros 63 (0, 0)) := by rw [← hW0, hz]; exact heap_alloc_last w _
  have hc0 : W0.cell? ⟨b, off, none⟩ = some (.slice ay a cy) := cell_kept hb0 h1
  have HW0 := Lib.hid hW0
  have HR0 := Lib.hid hr0
  have HB0 := Lib.hid hb0
  clear hv ho hrow V hn ha hC0 hW0 hz hr0 hb0 h1
  go_enter Tryd.func69, Tryd.ntmps69
  go_upto_region 1 with fail
  rw [HW0.out]
  go_wp2_with (first | (refine wpList_build_as rfl 63 _ rfl [(0, .int .i64 a), (1, .int .i64 n)] C0 rfl HBl.out ?_) | (refine wpList_store_row rfl 63 _ _ rfl w.heap.size C0 rfl rfl 63 zeros HR0.out HI4.out HI5.out HI6.out ?_))
  exact bodyPost_ret (results_cell1 (p := 2) (ty := 63) Tryd.results69 _ _ w.heap.size 63 C0 (0, 0) _ rfl (setRow_heap _ _ _ _ _ _ HR0.out) Tryd.underlying63 rfl HI4.out) rfl ⟨rfl, setRow_below HB0.out (Nat.le_refl _) _⟩

set_option maxHeartbeats 1000000 in
theorem atG_any {m : Int} (v : Value) (gs : List (List Int)) (x y : Nat) (w : World) (V : VG m gs) (hx : x < (rowF gs 0).length) (hy : y < gs.length) (hv : SlG w v gs) :
    Calls Tryd.prog 97 #[v, .agg #[.int .i64 x, .int .i64 y]] w (fun e w' => ∃ b2 o2, e = .returned (.pointer (some ⟨b2, o2 + x, none⟩)) ∧ w.cell? ⟨b2, o2 + x, none⟩ = some (.int .i64 ((rowF gs y).getD x 0)) ∧ Below w.heap.size w w') := by
  obtain ⟨ao, cap, rfl, ho⟩ := hv.open'
  obtain ⟨b, off, rfl, hbl, hrow⟩ := ho V.n1
  obtain ⟨ay, cy, h1, _, h3⟩ := hrow y hy
  have hl := V.len y hy
  obtain ⟨b2, o2, rfl, hb2, hcs⟩ := h3 (by omega)
  have hc := hcs x (by omega)
  rw [hl] at h1
  obtain ⟨n, hn⟩ : ∃ n, gs.length = n := ⟨_, rfl⟩
  rw [hn] at hy ⊢
  obtain ⟨a, ha⟩ : ∃ a, (rowF gs 0).length = a := ⟨_, rfl⟩
  rw [ha] at h1 hx
  have kx : (x : Int) < (a : Int) := by omega
  have ky : (y : Int) < (n : Int) := by omega
  have h1a : (w.alloc (.cells #[.int .i64 x, .int .i64 y] 93)).cell? ⟨b, off + y, none⟩ = some (.slice (some ⟨b2, o2, none⟩) a cy) := cell_kept (Joins.below_alloc1 _ _) h1
  have HCx := Lib.hid hc
  clear hv ho hrow V hn ha hl hcs h3 h1 hc
  go_enter Tryd.func97, Tryd.ntmps97
  go_wp2_with fail
  go_quiet (fail)
  go_wp2
  go_ret
  exact ⟨b2, o2, rfl, HCx.out, (Joins.below_alloc1 w _).trans (Joins.below_draws w.heap.size _ _)⟩

end Go.Proofs.YtnmnlbgialolhaaDoor
