/- Contracts of single functions, and plain lemmas, on which the exact laws of this seat rest; each holds under the conditions that it states. -/
import Derived.Test.YtnmnlbgialolhaaDoorGB
import Derived.Test.YtnmnlbgialolhaaDoorWd
import Derived.BigQuiet
import Derived.Test.YtnmnlbgialolhaaDoorMo
import Derived.Test.YtnmnlbgialolhaaDoorR1
namespace Go.Proofs.YtnmnlbgialolhaaDoor
set_option linter.unusedVariables false
set_option linter.unusedSimpArgs false
open Go.RowKit

/-! ### which rows are those of a grey picture -/
/-- a row with numbers up to m alone -/
def numsB (m : Int) (ns : List Int) : Bool := ns.all fun x => inB x 0 m
/-- the first k rows are as long as the first one and have such numbers -/
def rowsB (m : Int) (gs : List (List Int)) (k : Nat) : Bool := (List.range k).all fun i => decide ((rowF gs i).length = (rowF gs 0).length) && numsB m (rowF gs i)
def vG (m : Int) (gs : List (List Int)) : Bool := inB (gs.length : Int) 1 16 && inB ((rowF gs 0).length : Int) 1 16 && rowsB m gs gs.length
theorem rowsB_bad {m : Int} {gs : List (List Int)} {i : Nat} (hi : i < gs.length) (h : (rowF gs i).length ≠ (rowF gs 0).length ∨ numsB m (rowF gs i) = false) : vG m gs = false := by
  have : rowsB m gs gs.length = false := by
    unfold rowsB
    rw [List.all_eq_false]
    refine ⟨i, List.mem_range.2 hi, ?_⟩
    rcases h with h | h
    · rw [decide_eq_false h]; simp
    · rw [h]; simp
  unfold vG
  rw [this, Bool.and_false]
theorem numsB_bad {m : Int} {ns : List Int} {j : Nat} (hj : j < ns.length) (h : inB (ns.getD j 0) 0 m = false) : numsB m ns = false := by
  unfold numsB
  rw [List.all_eq_false]
  refine ⟨ns.getD j 0, ?_, by rw [h]; simp⟩
  rw [List.getD_eq_getElem?_getD, List.getElem?_eq_getElem hj]
  exact List.getElem_mem hj
theorem numsB_good {m : Int} {ns : List Int} (h : ∀ j, j < ns.length → inB (ns.getD j 0) 0 m = true) : numsB m ns = true := by
  unfold numsB
  rw [List.all_eq_true]
  intro x hx
  obtain ⟨j, hj, rfl⟩ := List.getElem_of_mem hx
  have := h j hj
  rwa [List.getD_eq_getElem?_getD, List.getElem?_eq_getElem hj] at this
theorem rowsB_good {m : Int} {gs : List (List Int)} (h : ∀ i, i < gs.length → (rowF gs i).length = (rowF gs 0).length ∧ numsB m (rowF gs i) = true) : rowsB m gs gs.length = true := by
  unfold rowsB
  rw [List.all_eq_true]
  intro i hi
  have := h i (List.mem_range.1 hi)
  rw [decide_eq_true this.1, this.2]
  rfl
/-- what a valid one has -/
structure VG (m : Int) (gs : List (List Int)) : Prop where
  n1 : 1 ≤ gs.length
  n16 : gs.length ≤ 16
  w1 : 1 ≤ (rowF gs 0).length
  w16 : (rowF gs 0).length ≤ 16
  len : ∀ i, i < gs.length → (rowF gs i).length = (rowF gs 0).length
  num : ∀ i, i < gs.length → ∀ j, j < (rowF gs 0).length → 0 ≤ (rowF gs i).getD j 0 ∧ (rowF gs i).getD j 0 ≤ m
theorem vg_of {m : Int} {gs : List (List Int)} (h : vG m gs = true) : VG m gs := by
  unfold vG inB at h
  simp only [Bool.and_eq_true, decide_eq_true_eq] at h
  obtain ⟨⟨⟨a, b⟩, c, d⟩, e⟩ := h
  unfold rowsB at e
  rw [List.all_eq_true] at e
  have hl : ∀ i, i < gs.length → (rowF gs i).length = (rowF gs 0).length := fun i hi => by
    have := e i (List.mem_range.2 hi)
    rw [Bool.and_eq_true] at this
    exact of_decide_eq_true this.1
  refine ⟨by omega, by omega, by omega, by omega, hl, fun i hi j hj => ?_⟩
  have := e i (List.mem_range.2 hi)
  rw [Bool.and_eq_true] at this
  have h2 := this.2
  unfold numsB at h2
  rw [List.all_eq_true] at h2
  have hj' : j < (rowF gs i).length := by rw [hl i hi]; exact hj
  have h3 := h2 ((rowF gs i)[j]) (List.getElem_mem hj')
  rw [List.getD_eq_getElem?_getD, List.getElem?_eq_getElem hj']
  unfold inB at h3
  simpa using h3

/-- a row of rows opened: each row's cell, and its numbers -/
theorem SlG.open' {W : World} {v : Value} {gs : List (List Int)} (h : SlG W v gs) : ∃ (ao : Option Addr) (cap : Nat), v = .slice ao gs.length cap ∧
    (0 < gs.length → ∃ b off, ao = some ⟨b, off, none⟩ ∧ b < W.heap.size ∧ ∀ i, i < gs.length → ∃ (ay : Option Addr) (cy : Nat), W.cell? ⟨b, off + i, none⟩ = some (.slice ay (rowF gs i).length cy) ∧ SlN W (.slice ay (rowF gs i).length cy) (rowF gs i) ∧
      (0 < (rowF gs i).length → ∃ b2 o2, ay = some ⟨b2, o2, none⟩ ∧ b2 < W.heap.size ∧ ∀ j, j < (rowF gs i).length → W.cell? ⟨b2, o2 + j, none⟩ = some (.int .i64 ((rowF gs i).getD j 0)))) := by
  rcases h with ⟨ao, cap, rfl, h0⟩ | ⟨b, off, cap, us, rfl, hpos, hb, hc⟩
  · exact ⟨ao, cap, by rw [h0], fun h => by omega⟩
  · refine ⟨_, cap, rfl, fun _ => ⟨b, off, rfl, hb, fun i hi => ?_⟩⟩
    obtain ⟨h1, h2⟩ := hc i hi
    obtain ⟨ay, cy, e⟩ := h2.form
    rw [e] at h1 h2
    refine ⟨ay, cy, h1, h2, fun hp => ?_⟩
    rcases h2 with ⟨ao2, cap2, e2, h0⟩ | ⟨b2, o2, cap2, e2, _, hb2, hc2⟩
    · rw [h0] at hp; simp at hp
    · injection e2 with e3 e4 e5
      exact ⟨b2, o2, e3, hb2, hc2⟩

set_option maxHeartbeats 4000000 in
set_option maxRecDepth 100000 in
theorem l07Table_any (v : Value) (gs : List (List Int)) (m : Int) (w : World) (hN : gs.length ≤ 1048576) (hf : ∀ i, i < gs.length → (rowF gs i).length ≤ 1048576) (hv : SlG w v gs) :
    Calls Tryd.prog 102 #[v, .int .i64 m] w (SaysB (vG m gs) w) := by
  obtain ⟨ao, cap, rfl, hop⟩ := hv.open'
  have HBad := Lib.hid (fun i hi h => @rowsB_bad m gs i hi h)
  have HNB := Lib.hid (fun i j => @numsB_bad m (rowF gs i) j)
  have HNG := Lib.hid (fun i => @numsB_good m (rowF gs i))
  have HG := Lib.hid (@rowsB_good m gs)
  have HV : Hid (vG m gs = (inB (gs.length : Int) 1 16 && inB ((rowF gs 0).length : Int) 1 16 && rowsB m gs gs.length)) := rfl
  obtain ⟨r, hr⟩ : ∃ r, vG m gs = r := ⟨_, rfl⟩
  rw [hr] at HBad HV ⊢
  by_cases hn : 1 ≤ gs.length ∧ gs.length ≤ 16
  · obtain ⟨b, off, rfl, hb, hc⟩ := hop (by omega)
    have hs1 := Lib.hid (inB_yes (n := (gs.length : Int)) (a := 1) (b := 16) (by omega) (by omega))
    have HC := Lib.hid hc
    have HF := Lib.hid hf
    have HS : Hid (∀ W, Below w.heap.size w W → ∀ i, i < gs.length → ∃ (ay : Option Addr) (cy : Nat), W.cell? ⟨b, off + i, none⟩ = some (.slice ay (rowF gs i).length cy) ∧ (0 < (rowF gs i).length → ∃ b2 o2, ay = some ⟨b2, o2, none⟩ ∧ b2 < W.heap.size ∧ ∀ j, j < (rowF gs i).length → W.cell? ⟨b2, o2 + j, none⟩ = some (.int .i64 ((rowF gs i).getD j 0)))) := fun W hbe i hi => by
      obtain ⟨ay, cy, h1, _, h3⟩ := hc i hi
      refine ⟨ay, cy, cell_kept hbe h1, fun hp => ?_⟩
      obtain ⟨b2, o2, e, hb2, h4⟩ := h3 hp
      exact ⟨b2, o2, e, Nat.lt_of_lt_of_le hb2 hbe.size, fun j hj => cell_kept hbe (h4 j hj)⟩
    obtain ⟨a0, c0, h0, _⟩ := hc 0 (by omega)
    rw [Nat.add_zero] at h0
    have H0 : Hid (∀ W, Below w.heap.size w W → W.cell? ⟨b, off, none⟩ = some (.slice a0 (rowF gs 0).length c0)) := fun W hbe => cell_kept hbe h0
    have HX : Hid (∀ i, i < gs.length → (rowF gs i).length = (rowF gs 0).length → (rowF gs i).length = (rowF gs 0).length) := fun _ _ h => h
    obtain ⟨n, hnn⟩ : ∃ n, gs.length = n := ⟨_, rfl⟩
    rw [hnn] at hn hs1 HC HF HS HBad HG HV hN
    obtain ⟨w0, hw0⟩ : ∃ k, (rowF gs 0).length = k := ⟨_, rfl⟩
    rw [hw0] at h0 H0 HBad HG HV
    have npos : (0 : Int) < (n : Int) := by omega
    rw [hnn]
    clear hc hf hop hv hr hnn hw0 HX
    by_cases hw : 1 ≤ w0 ∧ w0 ≤ 16
    · have hs2 := Lib.hid (inB_yes (n := (w0 : Int)) (a := 1) (b := 16) (by omega) (by omega))
      rw [hs1.out, hs2.out] at HV
      go_enter Tryd.func102, Tryd.ntmps102
      go_wp2_with fail
      refine (l01Side_any _ _).mono ?_
      rintro e w' ⟨rfl, rfl⟩
      rw [hs1.out]
      go_wp2_with fail
      refine (l01Side_any _ _).mono ?_
      rintro e w' ⟨rfl, rfl⟩
      rw [hs2.out]
      go_wp2_with fail
      go_loopw [5] (fun yv wr => ∃ y : Nat, y ≤ n ∧ yv = .int .i64 y ∧ Hid (∀ i, i < y → (rowF gs i).length = w0 ∧ numsB m (rowF gs i) = true) ∧ Hid (Below w.heap.size w wr)) (fun yv _ => n - (intOf yv).toNat)
      case atStart => exact ⟨0, Nat.zero_le _, rfl, fun i h => absurd h (Nat.not_lt_zero i), Below.refl _ _⟩
      case round =>
        obtain ⟨y, hy, rfl, HJ, HB⟩ := hrel
        have lb : b < wr.heap.size := Nat.lt_of_lt_of_le hb HB.out.size
        have c0' := H0.out _ HB.out
        by_cases hlt : y < n
        · have yn : (y : Int) < (n : Int) := by omega
          have y0 : (0 : Int) ≤ (y : Int) := by omega
          obtain ⟨ay, cy, hcy, hin⟩ := HS.out _ HB.out y hlt
          have hfy := HF.out y hlt
          have hbad := Lib.hid (HBad.out y hlt)
          have hnb := Lib.hid (fun j => HNB.out y j)
          have hng := Lib.hid (HNG.out y)
          obtain ⟨q, hq⟩ : ∃ q, rowF gs y = q := ⟨_, rfl⟩
          rw [hq] at hcy hin hfy hbad hnb hng
          have HQ := Lib.hid hq
          obtain ⟨k, hk⟩ : ∃ k, q.length = k := ⟨_, rfl⟩
          rw [hk] at hcy hin hfy hbad hnb hng
          have HK := Lib.hid hk
          have HIn := Lib.hid hin
          clear hq hk hin
          by_cases hkw : k = w0
          · subst hkw
            have kpos : 0 < k := by omega
            obtain ⟨b2, o2, rfl, hb2, hnum⟩ := HIn.out kpos
            have HNum := Lib.hid hnum
            clear hnum HIn
            go_wp2_with fail
            go_quiet (fail)
            go_wp2_with fail
            have HB1 : Hid (Below w.heap.size w (wr.drewN nq)) := HB.out.trans (Joins.below_draws w.heap.size _ _)
            have hc1 : (wr.drewN nq).cell? ⟨b, off + y, none⟩ = some (.slice (some ⟨b2, o2, none⟩) k cy) := cell_kept (Joins.below_draws wr.heap.size _ _) hcy
            have HNum1 : Hid (∀ j, j < k → (wr.drewN nq).cell? ⟨b2, o2 + j, none⟩ = some (.int .i64 (q.getD j 0))) := fun j hj => cell_kept (Joins.below_draws wr.heap.size _ _) (HNum.out j hj)
            have lb1 : b < (wr.drewN nq).heap.size := Nat.lt_of_lt_of_le hb HB1.out.size
            have lb2 : b2 < (wr.drewN nq).heap.size := Nat.lt_of_lt_of_le hb2 (Joins.below_draws wr.heap.size wr nq).size
            obtain ⟨W1, hW1⟩ : ∃ W1, wr.drewN nq = W1 := ⟨_, rfl⟩
            rw [hW1] at HB1 hc1 HNum1 lb1 lb2 ⊢
            clear hW1 HB HNum hcy c0' hb2 lb
            go_loopw [6] (fun xv wx => ∃ x : Nat, x ≤ k ∧ xv = .int .i64 x ∧ Hid (∀ j, j < x → inB (q.getD j 0) 0 m = true) ∧ W1 = wx) (fun xv _ => k - (intOf xv).toNat)
            case atStart => exact ⟨0, Nat.zero_le _, rfl, fun j h => absurd h (Nat.not_lt_zero j), rfl⟩
            case round =>
              obtain ⟨x, hx, rfl, HJx, rfl⟩ := hrel
              by_cases hltx : x < k
              · have xk : (x : Int) < (k : Int) := by omega
                have x0 : (0 : Int) ≤ (x : Int) := by omega
                have cx := HNum1.out x hltx
                have hbx := Lib.hid (hnb.out x hltx)
                have HJs : Hid (inB (q.getD x 0) 0 m = true → ∀ j, j < x + 1 → inB (q.getD j 0) 0 m = true) := fun h j hj => by
                  by_cases e : j = x
                  · rw [e]; exact h
                  · exact HJx.out j (by omega)
                obtain ⟨z, hz⟩ : ∃ z, q.getD x 0 = z := ⟨_, rfl⟩
                rw [hz] at cx hbx HJs
                obtain ⟨t, ht⟩ : ∃ t, inB z 0 m = t := ⟨_, rfl⟩
                rw [ht] at hbx HJs
                have HT := Lib.hid ht
                clear hz ht
                go_wp2_with fail
                refine (l00In_any _ _ _ _).mono ?_
                rintro e w' ⟨rfl, rfl⟩
                rw [HT.out]
                cases t with
                | true =>
                  have HN := Lib.hid (HJs.out rfl)
                  go_wp2_with fail
                  go_roundw
                  case rel => exact ⟨x + 1, by omega, by go_num, HN, (by trivial)⟩
                  case measure => simp [intOf]; omega
                | false =>
                  have HR := Lib.hid (hbad.out (Or.inr (hbx.out rfl)))
                  go_wp2_with fail
                  go_ret
                  exact ⟨ret_bool HR.out.symm, HB1.out⟩
              · obtain rfl : x = k := by omega
                have HN : Hid (∀ i, i < y + 1 → (rowF gs i).length = x ∧ numsB m (rowF gs i) = true) := fun i hi => by
                  by_cases e : i = y
                  · rw [e, HQ.out]
                    exact ⟨HK.out, hng.out HJx.out⟩
                  · exact HJ.out i (by omega)
                go_wp2_with fail
                go_roundw
                case rel => exact ⟨y + 1, by omega, by go_num, HN, HB1⟩
                case measure => simp [intOf]; omega
          · have HR := Lib.hid (hbad.out (Or.inl hkw))
            have kne : ¬ (k : Int) = (w0 : Int) := by omega
            go_wp2_with fail
            go_quiet (fail)
            have HB1 : Hid (Below w.heap.size w (wr.drewN nq)) := HB.out.trans (Joins.below_draws w.heap.size _ _)
            go_wp2_with fail
            go_ret
            exact ⟨ret_bool HR.out.symm, HB1.out⟩
        · obtain rfl : y = n := by omega
          have HR : Hid (r = true) := by
            show r = true
            rw [HV.out, HG.out HJ.out]
            rfl
          go_wp2_with fail
          go_ret
          exact ⟨ret_bool HR.out.symm, HB.out⟩
    · have hs2 := Lib.hid (inB_no (n := (w0 : Int)) (a := 1) (b := 16) (by omega))
      rw [hs1.out, hs2.out] at HV
      have HR : Hid (r = false) := HV.out
      go_enter Tryd.func102, Tryd.ntmps102
      go_wp2_with fail
      refine (l01Side_any _ _).mono ?_
      rintro e w' ⟨rfl, rfl⟩
      rw [hs1.out]
      go_wp2_with fail
      refine (l01Side_any _ _).mono ?_
      rintro e w' ⟨rfl, rfl⟩
      rw [hs2.out]
      go_wp2_with fail
      go_ret
      exact ⟨ret_bool HR.out.symm, Below.refl _ _⟩
  · have hs1 := Lib.hid (inB_no (n := (gs.length : Int)) (a := 1) (b := 16) (by omega))
    rw [hs1.out] at HV
    have HR : Hid (r = false) := HV.out
    obtain ⟨n, hnn⟩ : ∃ n, gs.length = n := ⟨_, rfl⟩
    rw [hnn] at hs1 hN ⊢
    clear HV HBad HNB HNG HG hop hv hf hr hn hnn
    go_enter Tryd.func102, Tryd.ntmps102
    go_wp2_with fail
    refine (l01Side_any _ _).mono ?_
    rintro e w' ⟨rfl, rfl⟩
    rw [hs1.out]
    go_wp2_with fail
    go_ret
    exact ⟨ret_bool HR.out.symm, Below.refl _ _⟩
end Go.Proofs.YtnmnlbgialolhaaDoor

/- Contracts of single functions, and plain lemmas, on which the exact laws of this seat rest; each holds under the conditions that it states. -/
namespace Go.Proofs.YtnmnlbgialolhaaDoor
set_option linter.unusedVariables false
open Go.RowKit

theorem isSide_any (n : Int) (w : World) : Calls Tryd.prog 126 #[.int .i64 n] w fun e w' => e = .returned (.bool (inB n 1 16)) ∧ w = w' := by
  by_cases h1 : 1 ≤ n
  · have e2 : Hid (inB n 1 16 = decide (n ≤ 16)) := by
      show inB n 1 16 = _
      simp [inB, h1]
    go_enter Tryd.func126, Tryd.ntmps126
    go_wp2
    go_ret
    exact ⟨ret_bool e2.out.symm, rfl⟩
  · have e2 : Hid (inB n 1 16 = false) := by
      show inB n 1 16 = _
      simp [inB, h1]
    go_enter Tryd.func126, Tryd.ntmps126
    go_wp2
    go_ret
    exact ⟨ret_bool (a := false) e2.out.symm, rfl⟩

set_option maxHeartbeats 400000 in
set_option maxRecDepth 100000 in
theorem blankMatrix_yes (a b : Int) (w : World) (ha : 1 ≤ a ∧ a ≤ 16) (hb : 1 ≤ b ∧ b ≤ 16) : Calls Tryd.prog 118 #[.int .i64 a, .int .i64 b] w (RetMat a b (fun _ => 0) true w) := by
  have h1 := Lib.hid (inB_yes ha.1 ha.2)
  have h2 := Lib.hid (inB_yes hb.1 hb.2)
  go_enter Tryd.func118, Tryd.ntmps118
  go_wp2_with fail
  refine (isSide_any _ _).mono ?_
  rintro e w' ⟨rfl, rfl⟩
  rw [h1.out]
  go_wp2_with fail
  refine (isSide_any _ _).mono ?_
  rintro e w' ⟨rfl, rfl⟩
  rw [h2.out]
  go_wp2_with (refine wpList_store_row rfl 63 _ _ rfl w.heap.size (mcells a b (fun _ => 0)) rfl rfl 63 (mcells 0 0 (fun _ => 0)) (heap_alloc_last w _) infoM rfl (mcells_one _ _ _) ?_)
  rw [World.setRow_alloc_new]
  exact bodyPost_ret (results_cell_tmp rfl _ _ w.heap.size 63 (mcells a b (fun _ => 0)) (0, 0) _ rfl (heap_alloc_last w _) Tryd.underlying63 rfl infoM) rfl ⟨rfl, Joins.below_alloc1 _ _⟩

set_option maxHeartbeats 400000 in
set_option maxRecDepth 100000 in
theorem blankMatrix_no (a b : Int) (w : World) (h : ¬ ((1 ≤ a ∧ a ≤ 16) ∧ (1 ≤ b ∧ b ≤ 16))) : Calls Tryd.prog 118 #[.int .i64 a, .int .i64 b] w (RetMat 0 0 (fun _ => 0) false w) := by
  by_cases ha : 1 ≤ a ∧ a ≤ 16
  · have h1 := Lib.hid (inB_yes ha.1 ha.2)
    have h2 := Lib.hid (inB_no (n := b) (a := 1) (b := 16) (by omega))
    go_enter Tryd.func118, Tryd.ntmps118
    go_wp2_with fail
    refine (isSide_any _ _).mono ?_
    rintro e w' ⟨rfl, rfl⟩
    rw [h1.out]
    go_wp2_with fail
    refine (isSide_any _ _).mono ?_
    rintro e w' ⟨rfl, rfl⟩
    rw [h2.out]
    go_wp2_with (refine wpList_store_row rfl 63 _ _ rfl w.heap.size (mcells 0 0 (fun _ => 0)) rfl rfl 63 (mcells 0 0 (fun _ => 0)) (heap_alloc_last w _) infoM rfl (mcells_one _ _ _) ?_)
    rw [World.setRow_alloc_new]
    exact bodyPost_ret (results_cell_tmp rfl _ _ w.heap.size 63 (mcells 0 0 (fun _ => 0)) (0, 0) _ rfl (heap_alloc_last w _) Tryd.underlying63 rfl infoM) rfl ⟨rfl, Joins.below_alloc1 _ _⟩
  · have h1 := Lib.hid (inB_no (n := a) (a := 1) (b := 16) (by omega))
    go_enter Tryd.func118, Tryd.ntmps118
    go_wp2_with fail
    refine (isSide_any _ _).mono ?_
    rintro e w' ⟨rfl, rfl⟩
    rw [h1.out]
    go_wp2_with (refine wpList_store_row rfl 63 _ _ rfl w.heap.size (mcells 0 0 (fun _ => 0)) rfl rfl 63 (mcells 0 0 (fun _ => 0)) (heap_alloc_last w _) infoM rfl (mcells_one _ _ _) ?_)
    rw [World.setRow_alloc_new]
    exact bodyPost_ret (results_cell_tmp rfl _ _ w.heap.size 63 (mcells 0 0 (fun _ => 0)) (0, 0) _ rfl (heap_alloc_last w _) Tryd.underlying63 rfl infoM) rfl ⟨rfl, Joins.below_alloc1 _ _⟩

/-! ### has, black: the matrix's cells are a variable C -/
end Go.Proofs.YtnmnlbgialolhaaDoor

/- Contracts of single functions, and plain lemmas, on which the exact laws of this seat rest; each holds under the conditions that it states. -/
namespace Go.Proofs.YtnmnlbgialolhaaDoor
set_option linter.unusedVariables false
set_option linter.unusedSimpArgs false
open Go.RowKit

/-! ### the least and the greatest number of a row -/
def mnK (ns : List Int) : Nat → Int
  | 0 => ns.getD 0 0
  | k + 1 => min (mnK ns k) (ns.getD k 0)
def mxK (ns : List Int) : Nat → Int
  | 0 => ns.getD 0 0
  | k + 1 => max (mxK ns k) (ns.getD k 0)
theorem mnK_ge (ns : List Int) (z : Int) : ∀ k, z ≤ mnK ns k ↔ z ≤ ns.getD 0 0 ∧ ∀ j, j < k → z ≤ ns.getD j 0
  | 0 => by simp [mnK]
  | k + 1 => by
    show z ≤ min (mnK ns k) (ns.getD k 0) ↔ _
    have ih := mnK_ge ns z k
    constructor
    · intro h
      have h1 : z ≤ mnK ns k := by omega
      have h2 : z ≤ ns.getD k 0 := by omega
      refine ⟨(ih.1 h1).1, fun j hj => ?_⟩
      by_cases e : j = k
      · rw [e]; exact h2
      · exact (ih.1 h1).2 j (by omega)
    · rintro ⟨h1, h2⟩
      have h3 := ih.2 ⟨h1, fun j hj => h2 j (by omega)⟩
      have h4 := h2 k (by omega)
      omega
theorem mxK_le (ns : List Int) (z : Int) : ∀ k, mxK ns k ≤ z ↔ ns.getD 0 0 ≤ z ∧ ∀ j, j < k → ns.getD j 0 ≤ z
  | 0 => by simp [mxK]
  | k + 1 => by
    show max (mxK ns k) (ns.getD k 0) ≤ z ↔ _
    have ih := mxK_le ns z k
    constructor
    · intro h
      have h1 : mxK ns k ≤ z := by omega
      have h2 : ns.getD k 0 ≤ z := by omega
      refine ⟨(ih.1 h1).1, fun j hj => ?_⟩
      by_cases e : j = k
      · rw [e]; exact h2
      · exact (ih.1 h1).2 j (by omega)
    · rintro ⟨h1, h2⟩
      have h3 := ih.2 ⟨h1, fun j hj => h2 j (by omega)⟩
      have h4 := h2 k (by omega)
      omega
theorem numsB_mm {ns : List Int} (m : Int) (h : 0 < ns.length) : numsB m ns = (decide (0 ≤ mnK ns ns.length) && decide (mxK ns ns.length ≤ m)) := by
  rw [Bool.eq_iff_iff, Bool.and_eq_true, decide_eq_true_eq, decide_eq_true_eq, mnK_ge, mxK_le]
  constructor
  · intro hh
    have key : ∀ j, j < ns.length → 0 ≤ ns.getD j 0 ∧ ns.getD j 0 ≤ m := fun j hj => by
      cases hb : inB (ns.getD j 0) 0 m with
      | false => rw [numsB_bad hj hb] at hh; cases hh
      | true => unfold inB at hb; simpa using hb
    exact ⟨⟨(key 0 h).1, fun j hj => (key j hj).1⟩, (key 0 h).2, fun j hj => (key j hj).2⟩
  · rintro ⟨⟨_, h1⟩, _, h2⟩
    exact numsB_good fun j hj => inB_yes (h1 j hj) (h2 j hj)

set_option maxHeartbeats 1000000 in
theorem sMin_any (b off n cap : Nat) (ns : List Int) (w : World) (hn : 0 < n) (hN : n ≤ maxLen) (hb : b < w.heap.size) (hc : ∀ j, j < n → w.cell? ⟨b, off + j, none⟩ = some (.int .i64 (ns.getD j 0))) :
    Calls Tryd.prog 119 #[.slice (some ⟨b, off, none⟩) n cap] w fun e w' => e = .returned (.int .i64 (mnK ns n)) ∧ w = w' := by
  unfold maxLen at hN
  have HC := Lib.hid hc
  have h0 := hc 0 hn
  rw [Nat.add_zero] at h0
  have HM : Hid (mnK ns 1 = ns.getD 0 0) := by show min (ns.getD 0 0) (ns.getD 0 0) = _; omega
  have HS : Hid (∀ k, mnK ns (k + 1) = min (mnK ns k) (ns.getD k 0)) := fun _ => rfl
  obtain ⟨x0, hx0⟩ : ∃ z, ns.getD 0 0 = z := ⟨_, rfl⟩
  rw [hx0] at h0 HM
  have npos : (0 : Int) < (n : Int) := by omega
  clear hc hx0
  go_enter Tryd.func119, Tryd.ntmps119
  go_wp2
  go_loopw [3, 4] (fun mv iv wr => ∃ (m : Int) (i : Nat), mv = .int .i64 m ∧ 1 ≤ i ∧ i ≤ n ∧ iv = .int .i64 i ∧ Hid (m = mnK ns i) ∧ w = wr) (fun _ iv _ => n - (intOf iv).toNat)
  case atStart => exact ⟨x0, 1, rfl, Nat.le_refl _, by omega, rfl, HM.out.symm, rfl⟩
  case round =>
    obtain ⟨m, i, rfl, h1, hi, rfl, HM2, rfl⟩ := hrel
    by_cases hlt : i < n
    · have hci := HC.out i hlt
      have HSi := Lib.hid (HS.out i)
      rw [← HM2.out] at HSi
      obtain ⟨z, hz⟩ : ∃ z, ns.getD i 0 = z := ⟨_, rfl⟩
      rw [hz] at hci HSi
      have il : (i : Int) < (n : Int) := by omega
      have i0 : (0 : Int) ≤ (i : Int) := by omega
      clear hz
      go_wp2
      go_roundw
      case rel => exact ⟨_, i + 1, rfl, by omega, by omega, by go_num, (by have h := HSi.out; first | exact h.symm | (show _ = _; rw [h]; first | rfl | (split <;> omega))), (by trivial)⟩
      case measure => simp [intOf]; omega
    · obtain rfl : i = n := by omega
      go_wp2
      go_ret
      exact ⟨ret_int HM2.out, rfl⟩
set_option maxHeartbeats 1000000 in
theorem sMax_any (b off n cap : Nat) (ns : List Int) (w : World) (hn : 0 < n) (hN : n ≤ maxLen) (hb : b < w.heap.size) (hc : ∀ j, j < n → w.cell? ⟨b, off + j, none⟩ = some (.int .i64 (ns.getD j 0))) :
    Calls Tryd.prog 120 #[.slice (some ⟨b, off, none⟩) n cap] w fun e w' => e = .returned (.int .i64 (mxK ns n)) ∧ w = w' := by
  unfold maxLen at hN
  have HC := Lib.hid hc
  have h0 := hc 0 hn
  rw [Nat.add_zero] at h0
  have HM : Hid (mxK ns 1 = ns.getD 0 0) := by show max (ns.getD 0 0) (ns.getD 0 0) = _; omega
  have HS : Hid (∀ k, mxK ns (k + 1) = max (mxK ns k) (ns.getD k 0)) := fun _ => rfl
  obtain ⟨x0, hx0⟩ : ∃ z, ns.getD 0 0 = z := ⟨_, rfl⟩
  rw [hx0] at h0 HM
  have npos : (0 : Int) < (n : Int) := by omega
  clear hc hx0
  go_enter Tryd.func120, Tryd.ntmps120
  go_wp2
  go_loopw [3, 4] (fun mv iv wr => ∃ (m : Int) (i : Nat), mv = .int .i64 m ∧ 1 ≤ i ∧ i ≤ n ∧ iv = .int .i64 i ∧ Hid (m = mxK ns i) ∧ w = wr) (fun _ iv _ => n - (intOf iv).toNat)
  case atStart => exact ⟨x0, 1, rfl, Nat.le_refl _, by omega, rfl, HM.out.symm, rfl⟩
  case round =>
    obtain ⟨m, i, rfl, h1, hi, rfl, HM2, rfl⟩ := hrel
    by_cases hlt : i < n
    · have hci := HC.out i hlt
      have HSi := Lib.hid (HS.out i)
      rw [← HM2.out] at HSi
      obtain ⟨z, hz⟩ : ∃ z, ns.getD i 0 = z := ⟨_, rfl⟩
      rw [hz] at hci HSi
      have il : (i : Int) < (n : Int) := by omega
      have i0 : (0 : Int) ≤ (i : Int) := by omega
      clear hz
      go_wp2
      go_roundw
      case rel => exact ⟨_, i + 1, rfl, by omega, by omega, by go_num, (by have h := HSi.out; first | exact h.symm | (show _ = _; rw [h]; first | rfl | (split <;> omega))), (by trivial)⟩
      case measure => simp [intOf]; omega
    · obtain rfl : i = n := by omega
      go_wp2
      go_ret
      exact ⟨ret_int HM2.out, rfl⟩

set_option maxHeartbeats 1000000 in
theorem l07Is_any (pb : Nat) (v : Value) (gs : List (List Int)) (w : World) (hp : w.cell? ⟨pb, 0, none⟩ = some v) (hN : gs.length ≤ 1048576) (hf : ∀ i, i < gs.length → (rowF gs i).length ≤ 1048576) (hv : SlG w v gs) :
    Calls Tryd.prog 59 #[.pointer (some ⟨pb, 0, none⟩)] w (SaysB (vG 99 gs) w) := by
  have C := Lib.hid (l07Table_any v gs 99 w hN hf hv)
  have lp := blk_lt hp
  clear hf hv
  go_enter Tryd.func59, Tryd.ntmps59
  go_wp2_with fail
  refine C.out.mono ?_
  rintro e w' ⟨rfl, hb⟩
  have HB := Lib.hid hb
  clear hb
  go_wp2
  go_ret
  exact ⟨rfl, HB.out⟩
end Go.Proofs.YtnmnlbgialolhaaDoor
