/- Contracts of single functions, and plain lemmas, on which the exact laws of this seat rest; each holds under the conditions that it states. -/
import Derived.Test.YtenbhnfajjknkaaDoorE8
namespace Go.Proofs.YtenbhnfajjknkaaDoor
set_option linter.unusedVariables false
set_option linter.unusedSimpArgs false
open Go.RowKit
attribute [local go_sem] Oper.semAt_some

set_option maxHeartbeats 4000000 in
set_option maxRecDepth 100000 in
theorem l03Fill_any (pb : Nat) (ss : List ByteArray) (e8 : Bool) (w : World) (hp : PicAt w pb 0 ss) :
    Calls Tryd.prog 77 #[.pointer (some ⟨pb, 0, none⟩), .bool e8] w (TookPic w (mkPic (row0 ss).size ss.length (fhF ss e8))) := by
  have V := vp_of hp.ok
  have hb0 := Joins.below_alloc1 w (.cells #[.slice none 0 0] 30)
  have hr0 := heap_alloc_last w (.cells #[.slice none 0 0] 30)
  obtain ⟨W0, hW0⟩ : ∃ W0, w.alloc (.cells #[.slice none 0 0] 30) = W0 := ⟨_, rfl⟩
  rw [hW0] at hb0 hr0
  have HW0 := Lib.hid hW0
  have KR : Hid (∀ W, Below W0.heap.size W0 W → W.heap[w.heap.size]? = some (.cells #[.slice none 0 0] 30 (0, 0))) := fun W hb => (hb.block _ (Array.getElem?_eq_some_iff.1 hr0).1).trans hr0
  have HB0 := Lib.hid hb0
  have CI : Hid (∀ W, Below w.heap.size w W → Calls Tryd.prog 102 #[.pointer (some ⟨pb, 0, none⟩)] W (TookPic W (mkPic (row0 ss).size ss.length (invF ss)))) := fun W hb => l01Invert_any pb 0 ss W (hp.below hb)
  have CE : Hid (∀ W, Below w.heap.size w W → Calls Tryd.prog 103 #[.pointer (some ⟨pb, 0, none⟩)] W (fun e w' => ∃ v, e = .returned v ∧ (∃ ao n cap, v = .slice ao n cap) ∧ OwnS w' W.heap.size v (edW ss) ∧ Below W.heap.size W w')) := fun W hb => l03Edge_any pb 0 ss W (hp.below hb)
  obtain ⟨iv, hiv⟩ : ∃ iv, mkPic (row0 ss).size ss.length (invF ss) = iv := ⟨_, rfl⟩
  obtain ⟨rc, hrc⟩ : ∃ rc, mkPic (row0 ss).size ss.length (rchF (whI ss) (stepL (!e8)) (edW ss)) = rc := ⟨_, rfl⟩
  have CR : Hid (∀ b sv W, PicAt W b 0 iv → SlS W sv (edW ss) → Calls Tryd.prog 72 #[.pointer (some ⟨b, 0, none⟩), sv, .bool (!e8)] W (TookPic W rc)) := fun b sv W h1 h2 =>
    (reach_pic b 0 iv (!e8) sv (edW ss) W h1 (edW_len V) h2).mono fun e w' ⟨bs, _, hr, ht⟩ => by
      have hl : iv.length = ss.length := by rw [← hiv]; exact mkPic_len _ _ _
      have hw : (row0 iv).size = (row0 ss).size := by rw [← hiv]; exact mkPic_row0 _ _ _ V.n1
      have hq : pixI iv = whI ss := by rw [← hiv]; exact inv_pixI V
      rw [hl, hw] at ht
      rw [hl, hw, hq] at hr
      rw [← hrc, show mkPic (row0 ss).size ss.length (rchF (whI ss) (stepL (!e8)) (edW ss)) = mkPic (row0 ss).size ss.length (fun y x => bs.getD (y * (row0 ss).size + x) false) from mkPic_congr fun y hy x hx => (rchF_eq (hr x y hx hy)).symm]
      exact ht
  have CF : Hid (∀ b W, PicAt W b 0 rc → Calls Tryd.prog 102 #[.pointer (some ⟨b, 0, none⟩)] W (TookPic W (mkPic (row0 ss).size ss.length (fhF ss e8)))) := fun b W h => by
    have hl : rc.length = ss.length := by rw [← hrc]; exact mkPic_len _ _ _
    have hw : (row0 rc).size = (row0 ss).size := by rw [← hrc]; exact mkPic_row0 _ _ _ V.n1
    have := l01Invert_any b 0 rc W h
    rw [hl, hw] at this
    rwa [show mkPic (row0 ss).size ss.length (invF rc) = mkPic (row0 ss).size ss.length (fhF ss e8) from mkPic_congr fun y hy x hx => by
      unfold invF fhF
      rw [← hrc, mkPic_pix _ _ _ hy hx]] at this
  have HVi : Hid (validB iv = true) := by show _ = _; rw [← hiv]; exact mkPic_valid _ _ _ ⟨V.w1, V.w16⟩ ⟨V.n1, V.n16⟩
  have HVr : Hid (validB rc = true) := by show _ = _; rw [← hrc]; exact mkPic_valid _ _ _ ⟨V.w1, V.w16⟩ ⟨V.n1, V.n16⟩
  rw [hiv] at CI
  obtain ⟨pic, hpic⟩ : ∃ p, mkPic (row0 ss).size ss.length (fhF ss e8) = p := ⟨_, rfl⟩
  obtain ⟨xs, hxs⟩ : ∃ x, edW ss = x := ⟨_, rfl⟩
  rw [hpic] at CF ⊢
  rw [hxs] at CE CR
  unfold TookPic at CI CR CF
  clear hp V hb0 hr0 hW0 hiv hrc hpic hxs
  go_enter Tryd.func77, Tryd.ntmps77
  go_wp2_with fail
  rw [HW0.out]
  refine (CI.out _ HB0.out).mono ?_
  rintro e w1 ⟨g1, cap1, rfl, hown1, hb1⟩
  have hbA := Joins.below_alloc1 w1 (.cells #[.slice (some ⟨g1, 0, none⟩) iv.length cap1] 30)
  have hpi : PicAt (w1.alloc (.cells #[.slice (some ⟨g1, 0, none⟩) iv.length cap1] 30)) w1.heap.size 0 iv :=
    ⟨HVi.out, _, by rw [World.cell?_alloc_mark]; rfl, (OwnP.sl hown1).below hbA⟩
  have hb2 : Below W0.heap.size W0 (w1.alloc (.cells #[.slice (some ⟨g1, 0, none⟩) iv.length cap1] 30)) := hb1.alloc hb1.size _
  obtain ⟨W2, hW2⟩ : ∃ W2, w1.alloc (.cells #[.slice (some ⟨g1, 0, none⟩) iv.length cap1] 30) = W2 := ⟨_, rfl⟩
  obtain ⟨b5, hb5⟩ : ∃ b, w1.heap.size = b := ⟨_, rfl⟩
  rw [hW2] at hpi hb2
  rw [hb5] at hpi
  have HW2 := Lib.hid hW2
  have HB5 := Lib.hid hb5
  have HPi := Lib.hid hpi
  have HB2 := Lib.hid hb2
  clear hown1 hb1 hbA hpi hb2 hW2 hb5
  go_wp2_with fail
  rw [HW2.out, HB5.out]
  refine (CE.out _ (HB0.out.trans (HB2.out.mono HB0.out.size))).mono ?_
  rintro e w3 ⟨sv, rfl, ⟨ao, n, cap, rfl⟩, hown3, hb3⟩
  have HSl := Lib.hid (OwnS.sl hown3)
  have HB3 := Lib.hid (HB2.out.trans (hb3.mono HB2.out.size))
  have HPi3 := Lib.hid (HPi.out.below hb3)
  clear hown3 hb3
  go_wp2_with fail
  refine (CR.out _ _ _ HPi3.out HSl.out).mono ?_
  rintro e w4 ⟨g4, cap4, rfl, hown4, hb4⟩
  have hbB := Joins.below_alloc1 w4 (.cells #[.slice (some ⟨g4, 0, none⟩) rc.length cap4] 30)
  have hpr : PicAt (w4.alloc (.cells #[.slice (some ⟨g4, 0, none⟩) rc.length cap4] 30)) w4.heap.size 0 rc :=
    ⟨HVr.out, _, by rw [World.cell?_alloc_mark]; rfl, (OwnP.sl hown4).below hbB⟩
  have hb6 : Below W0.heap.size W0 (w4.alloc (.cells #[.slice (some ⟨g4, 0, none⟩) rc.length cap4] 30)) := (HB3.out.trans (hb4.mono HB3.out.size)).alloc (Nat.le_trans HB3.out.size hb4.size) _
  obtain ⟨W6, hW6⟩ : ∃ W6, w4.alloc (.cells #[.slice (some ⟨g4, 0, none⟩) rc.length cap4] 30) = W6 := ⟨_, rfl⟩
  obtain ⟨b6, hb6'⟩ : ∃ b, w4.heap.size = b := ⟨_, rfl⟩
  rw [hW6] at hpr hb6
  rw [hb6'] at hpr
  have HW6 := Lib.hid hW6
  have HB6' := Lib.hid hb6'
  have HPr := Lib.hid hpr
  have HB6 := Lib.hid hb6
  clear hown4 hb4 hbB hpr hb6 hW6 hb6'
  go_wp2_with fail
  rw [HW6.out, HB6'.out]
  refine (CF.out _ _ HPr.out).mono ?_
  rintro e w7 ⟨g7, cap7, rfl, hown7, hb7⟩
  have hb8 := HB6.out.trans (hb7.mono HB6.out.size)
  have hp7 := KR.out _ hb8
  have hfr : w7.frozen? ⟨w.heap.size, 0, none⟩ = false := free_of_one hp7
  have hc2 : w7.cell? ⟨w.heap.size, 0, none⟩ = some (.slice none 0 0) := cell_of_one hp7
  have O7 := Lib.hid (own_set (u := .slice (some ⟨g7, 0, none⟩) pic.length cap7) hown7 hp7 (by decide))
  have P7 := Lib.hid (one_setCell (u := .slice (some ⟨g7, 0, none⟩) pic.length cap7) hp7)
  have B7 := Lib.hid (HB0.out.trans (hb8.mono HB0.out.size))
  have hs7 : w.heap.size ≤ W6.heap.size := Nat.le_trans HB0.out.size HB6.out.size
  clear hown7 hb7 hb8 hp7
  go_wp2_with fail
  exact bodyPost_ret (results_cell1 (p := 4) (ty := 30) Tryd.results77 _ _ w.heap.size 30 #[.slice (some ⟨g7, 0, none⟩) pic.length cap7] (0, 0) _ rfl P7.out Tryd.underlying30 rfl infoPi1) rfl ⟨g7, cap7, rfl, Joins.ownsRow_le O7.out hs7, B7.out.setCell (p := ⟨w.heap.size, 0, none⟩) (Nat.le_refl _) _⟩

set_option maxHeartbeats 4000000 in
set_option maxRecDepth 100000 in
theorem spec_Fill (u : Value) (ss : List ByteArray) (e8 : Bool) (w : World) (hL : ss.length ≤ maxLen) (hz : ∀ s ∈ ss, s.size ≤ maxLen) (hu : Sl w u ss) :
    Calls Tryd.prog 37 #[.agg #[u], .bool e8] w (SaysPic (fhP ss e8) (validB ss) w) := by
  obtain ⟨W0, hW0⟩ : ∃ W0, (w.alloc (.cells #[u] 30)).alloc (.cells #[.slice none 0 0] 30) = W0 := ⟨_, rfl⟩
  have hs0 : W0.heap.size = w.heap.size + 1 + 1 := by rw [← hW0]; simp
  have hb0 : Below w.heap.size w W0 := by rw [← hW0]; exact Joins.below_alloc2 _ _ _
  have p0 : W0.heap[w.heap.size]? = some (.cells #[u] 30 (0, 0)) := by
    rw [← hW0, Below.heap_alloc _ _ _ (by first | (simp; done) | (simp; omega))]; exact heap_alloc_last w _
  have p1 : W0.heap[w.heap.size + 1]? = some (.cells #[.slice none 0 0] 30 (0, 0)) := by
    rw [← hW0]
    exact heap_alloc2_new _ _ _
  have HW := Lib.hid hW0
  have HB0 := Lib.hid hb0
  have KR : Hid (∀ W, Below W0.heap.size W0 W → W.heap[w.heap.size + 1]? = some (.cells #[.slice none 0 0] 30 (0, 0))) := fun W hb => (hb.block _ (by omega)).trans p1
  have CL := Lib.hid (l01Is_any w.heap.size 0 u ss W0 (cell_of_one p0) (hu.below hb0) hL hz)
  cases hok : validB ss with
  | false =>
    have e1 : Hid (fhP ss e8 = []) := fhP_no hok
    rw [hok] at CL
    rw [e1.out]
    clear hok e1 hu hL hz p0 p1 hW0 hb0 hs0
    go_enter Tryd.func37, Tryd.ntmps37
    go_wp2_with fail
    rw [HW.out]
    refine CL.out.mono ?_
    rintro e w1 ⟨rfl, hb1⟩
    have hp1 := KR.out _ hb1
    have hfr : w1.frozen? ⟨w.heap.size + 1, 0, none⟩ = false := free_of_one hp1
    have hc2 : w1.cell? ⟨w.heap.size + 1, 0, none⟩ = some (.slice none 0 0) := cell_of_one hp1
    have B1 : Hid (Below w.heap.size w w1) := HB0.out.trans (hb1.mono HB0.out.size)
    have P1 := Lib.hid hp1
    clear hb1 hp1
    go_wp2_with fail
    refine bodyPost_ret (v := .tuple #[.agg #[.slice none 0 0], .bool false]) (by simp [results, Tryd.results37, go_sem, cell_of_one (one_setCell P1.out)]) rfl ⟨_, _, _, rfl, World.ownsRow_nil _ _ _ _, B1.out.setCell (by show w.heap.size ≤ w.heap.size + 1; omega) _⟩
  | true =>
    have e1 : Hid (fhP ss e8 = mkPic (row0 ss).size ss.length (fhF ss e8)) := fhP_yes hok
    rw [hok] at CL
    have CR : Hid (∀ W, Below W0.heap.size W0 W → Calls Tryd.prog 77 #[.pointer (some ⟨w.heap.size, 0, none⟩), .bool e8] W (TookPic W (mkPic (row0 ss).size ss.length (fhF ss e8)))) := fun W hb =>
      l03Fill_any w.heap.size ss e8 W ⟨hok, u, cell_of_one ((hb.block _ (by omega)).trans p0), (hu.below hb0).below hb⟩
    rw [e1.out]
    obtain ⟨pic, hpic⟩ : ∃ p, mkPic (row0 ss).size ss.length (fhF ss e8) = p := ⟨_, rfl⟩
    rw [hpic] at CR ⊢
    unfold TookPic at CR
    clear hok e1 hu hL hz p0 p1 hW0 hb0 hs0 hpic
    go_enter Tryd.func37, Tryd.ntmps37
    go_wp2_with fail
    rw [HW.out]
    refine CL.out.mono ?_
    rintro e w1 ⟨rfl, hb1⟩
    have HB1 := Lib.hid hb1
    clear hb1
    go_wp2_with fail
    refine (CR.out _ HB1.out).mono ?_
    rintro e w5 ⟨g4, cap4, rfl, hown4, hb4⟩
    have hb5 := HB1.out.trans (hb4.mono HB1.out.size)
    have hp2 := KR.out _ hb5
    have hfr : w5.frozen? ⟨w.heap.size + 1, 0, none⟩ = false := free_of_one hp2
    have hc2 : w5.cell? ⟨w.heap.size + 1, 0, none⟩ = some (.slice none 0 0) := cell_of_one hp2
    have O2 := Lib.hid (own_set (u := .slice (some ⟨g4, 0, none⟩) pic.length cap4) hown4 hp2 (by decide))
    have P5 := Lib.hid hp2
    have B5 := Lib.hid (HB0.out.trans (hb5.mono HB0.out.size))
    have hs4 : w.heap.size ≤ w1.heap.size := Nat.le_trans HB0.out.size HB1.out.size
    clear hown4 hp2 hb4 hb5
    go_wp2_with fail
    refine bodyPost_ret (v := .tuple #[.agg #[.slice (some ⟨g4, 0, none⟩) pic.length cap4], .bool true]) (by simp [results, Tryd.results37, go_sem, cell_of_one (one_setCell P5.out)]) rfl ⟨_, _, _, rfl, Joins.ownsRow_le O2.out hs4, B5.out.setCell (by show w.heap.size ≤ w.heap.size + 1; omega) _⟩
end Go.Proofs.YtenbhnfajjknkaaDoor
