/- Contracts of single functions, and plain lemmas, on which the exact laws of this seat rest; each holds under the conditions that it states. -/
import Derived.Test.YtnmnlbgialolhaaDoorRSf
import Derived.Test.YtnmnlbgialolhaaDoorRSa
import Derived.Test.YtnmnlbgialolhaaDoorR3
namespace Go.Proofs.YtnmnlbgialolhaaDoor
set_option linter.unusedVariables false
set_option linter.unusedSimpArgs false
open Go.RowKit
attribute [local go_sem] Oper.semAt_some

theorem call_FromResidue1 (args : Array Value) (W : World) : (callFunc 49 args).run Tryd.prog W = .ok (.enter 49 args) W := by simp [go_sem]

set_option maxHeartbeats 2000000 in
set_option maxRecDepth 100000 in
theorem workFromResidue_yes (pb : Nat) (v : Value) (ss : List ByteArray) (w : World) (hN : ss.length ≤ maxLen) (hz : ∀ s ∈ ss, s.size ≤ maxLen) (hv : Sl w v ss) (he : ErrLen w) (hc : w.cell? ⟨pb, 0, none⟩ = some v) (hok : validB ss = true) :
    Calls Tryd.prog 49 #[.pointer (some ⟨pb, 0, none⟩)] w (TookPic w (mkPic (row0 ss).size ss.length (frF ss))) := by
  have V := vp_of hok
  have hb0 := Joins.below_alloc1 w (.cells #[.slice none 0 0] 26)
  have hr0 := heap_alloc_last w (.cells #[.slice none 0 0] 26)
  obtain ⟨W0, hW0⟩ : ∃ W0, w.alloc (.cells #[.slice none 0 0] 26) = W0 := ⟨_, rfl⟩
  rw [hW0] at hb0 hr0
  have HW0 := Lib.hid hW0
  have HB0 := Lib.hid hb0
  have hs0 : W0.heap.size = w.heap.size + 1 := by rw [← hW0]; simp
  have c1 := cell_kept hb0 hc
  have KR : Hid (∀ W, Below W0.heap.size W0 W → W.heap[w.heap.size]? = some (.cells #[.slice none 0 0] 26 (0, 0))) := fun W hb => (hb.block _ (Array.getElem?_eq_some_iff.1 hr0).1).trans hr0
  have CM := Lib.hid (reqMat_yes v ss W0 hN hz (hv.below hb0) (he.below hb0) hok)
  have hMM := matC_yes hok
  have CR : Hid (∀ W, Calls Tryd.prog 50 #[.agg (matC ss)] W (fun e w' => e = .returned (.agg (mat (row0 ss).size ss.length (dnH (frFun (row0 ss).size ss.length (wordsOf ss)) ((gGrid (row0 ss).size ss.length V.w1 V.n1).list (ss.length * (row0 ss).size))))) ∧ Below W.heap.size W w')) := fun W => from_any _ _ _ _ W hMM V.w1 V.w16 V.n1 V.n16 (words_lt V)
  have CP : Hid (∀ W, Calls Tryd.prog 44 #[.agg (mat (row0 ss).size ss.length (dnH (frFun (row0 ss).size ss.length (wordsOf ss)) ((gGrid (row0 ss).size ss.length V.w1 V.n1).list (ss.length * (row0 ss).size))))] W (TookPic W (mkPic (row0 ss).size ss.length (frF ss)))) := fun W => fr_pic V W
  obtain ⟨C, hC⟩ : ∃ C, matC ss = C := ⟨_, rfl⟩
  rw [hC] at CM CR
  obtain ⟨R, hR⟩ : ∃ R, mat (row0 ss).size ss.length (dnH (frFun (row0 ss).size ss.length (wordsOf ss)) ((gGrid (row0 ss).size ss.length V.w1 V.n1).list (ss.length * (row0 ss).size))) = R := ⟨_, rfl⟩
  rw [hR] at CR CP
  obtain ⟨pic, hpic⟩ : ∃ p, mkPic (row0 ss).size ss.length (frF ss) = p := ⟨_, rfl⟩
  rw [hpic] at CP ⊢
  unfold TookPic at CP
  have HS0 := Lib.hid hs0
  clear hb0 hr0 hW0 hv he hN hz hc hok hMM hC hR hpic V hs0
  go_enter Tryd.func49, Tryd.ntmps49
  go_upto_region 1 with fail
  rw [HW0.out]
  go_wp2_with fail
  refine CM.out.mono ?_
  rintro e w1 ⟨rfl, hb1⟩
  have B1 := Lib.hid hb1
  clear hb1 c1
  go_wp2_with fail
  refine (CR.out _).mono ?_
  rintro e w2 ⟨rfl, hb2⟩
  have B2 := Lib.hid (B1.out.trans (hb2.mono B1.out.size))
  clear hb2
  go_wp2_with fail
  refine (CP.out _).mono ?_
  rintro e w7 ⟨g7, cap7, rfl, hown7, hb7⟩
  have B3 := B2.out.trans (hb7.mono B2.out.size)
  have hp7 := KR.out _ B3
  have hfr : w7.frozen? ⟨w.heap.size, 0, none⟩ = false := free_of_one hp7
  have hc2 : w7.cell? ⟨w.heap.size, 0, none⟩ = some (.slice none 0 0) := cell_of_one hp7
  have hle : w.heap.size ≤ w2.heap.size := by have := HS0.out; have := B2.out.size; omega
  have O7 := Lib.hid (Joins.ownsRow_le (own_set (u := .slice (some ⟨g7, 0, none⟩) pic.length cap7) hown7 hp7 (by decide)) hle)
  have P7 := Lib.hid (one_setCell (u := .slice (some ⟨g7, 0, none⟩) pic.length cap7) hp7)
  have B7 := Lib.hid (HB0.out.trans (B3.mono HB0.out.size))
  clear hown7 hb7 hp7 B3
  go_wp2_with fail
  exact bodyPost_ret (results_cell1 (p := 1) (ty := 26) Tryd.results49 _ _ w.heap.size 26 #[.slice (some ⟨g7, 0, none⟩) pic.length cap7] (0, 0) _ rfl P7.out Tryd.underlying26 rfl (by kernel_rfl)) rfl ⟨g7, cap7, rfl, O7.out, B7.out.setCell (p := ⟨w.heap.size, 0, none⟩) (Nat.le_refl _) _⟩

set_option maxHeartbeats 2000000 in
set_option maxRecDepth 100000 in
theorem workFromResidue_no (pb : Nat) (v : Value) (ss : List ByteArray) (w : World) (hN : ss.length ≤ maxLen) (hz : ∀ s ∈ ss, s.size ≤ maxLen) (hv : Sl w v ss) (he : ErrLen w) (hn : NoRes w) (hc : w.cell? ⟨pb, 0, none⟩ = some v) (hok : validB ss = false) :
    Calls Tryd.prog 49 #[.pointer (some ⟨pb, 0, none⟩)] w (fun e w' => (∃ T x, e = .panicked [{ v := .iface T x, recovered := false }]) ∧ Below w.heap.size w w') := by
  have hb0 := Joins.below_alloc1 w (.cells #[.slice none 0 0] 26)
  obtain ⟨W0, hW0⟩ : ∃ W0, w.alloc (.cells #[.slice none 0 0] 26) = W0 := ⟨_, rfl⟩
  rw [hW0] at hb0
  have HW0 := Lib.hid hW0
  have HB0 := Lib.hid hb0
  have c1 := cell_kept hb0 hc
  have CM := Lib.hid (reqMat_no v ss W0 hN hz (hv.below hb0) (he.below hb0) (hn.below hb0) hok)
  clear hb0 hW0 hv he hN hz hc hok hn
  go_enter Tryd.func49, Tryd.ntmps49
  go_upto_region 1 with fail
  rw [HW0.out]
  go_wp2_with fail
  refine CM.out.mono ?_
  rintro e w1 ⟨⟨T, x, rfl⟩, hb1⟩
  have B1 := Lib.hid (HB0.out.trans (hb1.mono HB0.out.size))
  clear hb1 c1
  go_wp2_with fail
  exact ⟨rfl, ⟨T, x, rfl⟩, B1.out⟩

set_option maxHeartbeats 2000000 in
set_option maxRecDepth 100000 in
theorem impl_FromResidue (v : Value) (ss : List ByteArray) (w : World) (hN : ss.length ≤ maxLen) (hz : ∀ s ∈ ss, s.size ≤ maxLen) (hv : Sl w v ss) (he : ErrLen w) (hr : NoRes w) :
    Calls Tryd.prog 18 #[.agg #[v]] w (SaysPic (frP ss) (validB ss) w) := by
  have hmf : ∀ (fn : Fn) (first cap : Array Value) (w : World), (Instr.makeFunc fn first cap).run Tryd.prog w = .ok (.func fn first cap) w := fun _ _ _ _ => rfl
  obtain ⟨W0, hW0⟩ : ∃ W0, (w.alloc (.cells #[v] 26)).alloc (.cells #[.slice none 0 0] 26) = W0 := ⟨_, rfl⟩
  have hs0 : W0.heap.size = w.heap.size + 1 + 1 := by rw [← hW0]; simp
  have hb0 : Below w.heap.size w W0 := by rw [← hW0]; exact Joins.below_alloc2 _ _ _
  have p0 : W0.heap[w.heap.size]? = some (.cells #[v] 26 (0, 0)) := by
    rw [← hW0, Below.heap_alloc _ _ _ (by first | (simp; done) | (simp; omega))]; exact heap_alloc_last w _
  have p2 : W0.heap[w.heap.size + 1]? = some (.cells #[.slice none 0 0] 26 (0, 0)) := by
    rw [← hW0]
    exact heap_alloc2_new _ _ _
  have HW := Lib.hid hW0
  have HB0 := Lib.hid hb0
  have KR : Hid (∀ W, Below W0.heap.size W0 W → W.heap[w.heap.size + 1]? = some (.cells #[.slice none 0 0] 26 (0, 0))) := fun W hb => (hb.block _ (by omega)).trans p2
  cases hok : validB ss with
  | false =>
    have e1 : Hid (frP ss = []) := frP_no hok
    have C := Lib.hid (attemptPi_no 49 #[.pointer (some ⟨w.heap.size, 0, none⟩)] W0 call_FromResidue1 (fun W hb => workFromResidue_no w.heap.size v ss W hN hz ((hv.below hb0).below hb) ((he.below hb0).below hb) ((hr.below hb0).below hb) (cell_kept hb (cell_of_one p0)) hok))
    rw [e1.out]
    clear hv hr he hok e1 p0 p2 hb0 hW0 hs0 hN hz
    go_enter Tryd.func18, Tryd.ntmps18
    go_upto_region 1 with fail
    rw [HW.out]
    go_wp2_with fail
    refine C.out.mono ?_
    rintro e w1 ⟨rfl, hb1⟩
    have hp1 := KR.out _ hb1
    have hfr : w1.frozen? ⟨w.heap.size + 1, 0, none⟩ = false := free_of_one hp1
    have hc2 : w1.cell? ⟨w.heap.size + 1, 0, none⟩ = some (.slice none 0 0) := cell_of_one hp1
    have B1 : Hid (Below w.heap.size w w1) := HB0.out.trans (hb1.mono HB0.out.size)
    have P1 := Lib.hid hp1
    clear hb1 hp1
    go_wp2_with fail
    refine bodyPost_ret (v := .tuple #[.agg #[.slice none 0 0], .bool false]) (by simp [results, Tryd.results18, go_sem, cell_of_one (one_setCell P1.out)]) rfl ⟨_, _, _, rfl, World.ownsRow_nil _ _ _ _, B1.out.setCell (by show w.heap.size ≤ w.heap.size + 1; omega) _⟩
  | true =>
    have e1 : Hid (frP ss = mkPic (row0 ss).size ss.length (frF ss)) := frP_yes hok
    have C := Lib.hid (attemptPi_yes 49 #[.pointer (some ⟨w.heap.size, 0, none⟩)] W0 (fun u W w' => Below W0.heap.size W0 W → ∃ g c, u = .agg #[.slice (some ⟨g, 0, none⟩) (mkPic (row0 ss).size ss.length (frF ss)).length c] ∧ OwnP w' W.heap.size (.slice (some ⟨g, 0, none⟩) (mkPic (row0 ss).size ss.length (frF ss)).length c) (mkPic (row0 ss).size ss.length (frF ss))) call_FromResidue1 (fun W hb => (workFromResidue_yes w.heap.size v ss W hN hz ((hv.below hb0).below hb) ((he.below hb0).below hb) (cell_kept hb (cell_of_one p0)) hok).mono fun e w' ⟨g, c, h1, h2, h3⟩ => ⟨_, _, _, h1, fun _ => ⟨g, c, rfl, h2⟩, h3⟩))
    rw [e1.out]
    obtain ⟨pic, hpic⟩ : ∃ p, mkPic (row0 ss).size ss.length (frF ss) = p := ⟨_, rfl⟩
    rw [hpic] at C ⊢
    clear hv hr he hok e1 p0 p2 hb0 hW0 hpic hN hz
    go_enter Tryd.func18, Tryd.ntmps18
    go_upto_region 1 with fail
    rw [HW.out]
    go_wp2_with fail
    refine C.out.mono ?_
    rintro e w9 ⟨a5, n5, c5, w1, rfl, hQ, hb1, rfl, hr1, hr2⟩
    obtain ⟨g, c, hu, hown⟩ := hQ (Joins.below_alloc2 _ _ _)
    injection hu with hu
    have hu2 : Value.slice a5 n5 c5 = .slice (some ⟨g, 0, none⟩) pic.length c := by
      have := congrArg (fun a : Array Value => a[0]?) hu
      simpa using this
    injection hu2 with h1 h2 h3
    subst h1 h2 h3
    have hr3 : (w1.setCell ⟨W0.heap.size, 0, none⟩ (.slice (some ⟨g, 0, none⟩) pic.length c5)).heap[W0.heap.size + 1]? = some (.cells #[.bool false] 4 (0, 0)) := (Below.heap_setCell _ _ _ _ (by simp)).trans hr2
    have o1 := own_set (u := .slice (some ⟨g, 0, none⟩) pic.length c5) hown hr1 (by decide)
    have o2 := own_set (u := .bool true) o1 hr3 (by decide)
    have hbe : Below W0.heap.size W0 ((w1.setCell ⟨W0.heap.size, 0, none⟩ (.slice (some ⟨g, 0, none⟩) pic.length c5)).setCell ⟨W0.heap.size + 1, 0, none⟩ (.bool true)) := (hb1.setCell (by simp) _).setCell (by simp) _
    have o3 : OwnP _ _ _ _ := OwnP.mono o2 (show w.heap.size ≤ _ by simp; omega)
    obtain ⟨W9, hW9⟩ : ∃ W9, ((w1.setCell ⟨W0.heap.size, 0, none⟩ (.slice (some ⟨g, 0, none⟩) pic.length c5)).setCell ⟨W0.heap.size + 1, 0, none⟩ (.bool true)) = W9 := ⟨_, rfl⟩
    rw [hW9] at hbe o3 ⊢
    have hp1 := KR.out _ hbe
    have hfr : W9.frozen? ⟨w.heap.size + 1, 0, none⟩ = false := free_of_one hp1
    have hc2 : W9.cell? ⟨w.heap.size + 1, 0, none⟩ = some (.slice none 0 0) := cell_of_one hp1
    have O2 := Lib.hid (own_set (u := .slice (some ⟨g, 0, none⟩) pic.length c5) o3 hp1 (by decide))
    have P5 := Lib.hid hp1
    have B5 := Lib.hid (HB0.out.trans (hbe.mono HB0.out.size))
    clear hQ hb1 hr1 hr2 hown hu hr3 o1 o2 hbe o3 hW9 hp1
    go_wp2_with fail
    refine bodyPost_ret (v := .tuple #[.agg #[.slice (some ⟨g, 0, none⟩) pic.length c5], .bool true]) (by simp [results, Tryd.results18, go_sem, cell_of_one (one_setCell P5.out)]) rfl ⟨_, _, _, rfl, O2.out, B5.out.setCell (by show w.heap.size ≤ w.heap.size + 1; omega) _⟩
end Go.Proofs.YtnmnlbgialolhaaDoor
