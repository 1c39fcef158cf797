/- Contracts of single functions, and plain lemmas, on which the exact laws of this seat rest; each holds under the conditions that it states. -/
import Derived.Test.YtnmnlbgialolhaaDoorRSc
import Derived.Test.YtnmnlbgialolhaaDoorRSa
import Derived.Test.YtnmnlbgialolhaaDoorR3
import Derived.Test.YtnmnlbgialolhaaDoorFRa
import Derived.Test.YtnmnlbgialolhaaDoorKV
import Derived.Test.YtnmnlbgialolhaaDoorCX2
import Derived.Test.YtnmnlbgialolhaaDoorRI
import Derived.Deep.DeepCutAuto
namespace Go.Proofs.YtnmnlbgialolhaaDoor
set_option linter.unusedVariables false
set_option linter.unusedSimpArgs false
open Go.RowKit
attribute [local go_sem] Oper.semAt_some

theorem rs_pic {ss : List ByteArray} (V : VP ss) (w : World) :
    Calls Tryd.prog 44 #[.agg (mat (row0 ss).size ss.length (dnH (rsFun (row0 ss).size ss.length (wordsOf ss)) ((gGrid (row0 ss).size ss.length V.w1 V.n1).list (ss.length * (row0 ss).size))))] w (TookPic w (mkPic (row0 ss).size ss.length (rsF ss))) := by
  have e : rsFun (row0 ss).size ss.length (wordsOf ss) = fun _ => rsF ss := by
    funext h y x
    unfold rsFun oddB rsF rsI
    have hpe : blackB (row0 ss).size ss.length (wordsOf ss) = pixI ss := funext fun x => funext fun y => words_bit V x y
    rw [hpe]
    cases pixI ss (x : Int) (y : Int) <;> cases pixI ss ((x : Int) - 1) (y : Int) <;> cases pixI ss (x : Int) ((y : Int) - 1) <;> cases pixI ss ((x : Int) - 1) ((y : Int) - 1) <;> rfl
  rw [e]
  exact dn_pic (row0 ss).size ss.length V.w1 V.n1 V.w16 V.n16 (rsF ss) w

theorem call_ResidueOf1 (args : Array Value) (W : World) : (callFunc 41 args).run Tryd.prog W = .ok (.enter 41 args) W := by simp [go_sem]

set_option maxHeartbeats 2000000 in
set_option maxRecDepth 100000 in
theorem workResidueOf_yes (pb : Nat) (v : Value) (ss : List ByteArray) (w : World) (hN : ss.length ≤ maxLen) (hz : ∀ s ∈ ss, s.size ≤ maxLen) (hv : Sl w v ss) (he : ErrLen w) (hc : w.cell? ⟨pb, 0, none⟩ = some v) (hok : validB ss = true) :
    Calls Tryd.prog 41 #[.pointer (some ⟨pb, 0, none⟩)] w (TookPic w (mkPic (row0 ss).size ss.length (rsF ss))) := by
  have V := vp_of hok
  have hb0 := Joins.below_alloc1 w (.cells #[.slice none 0 0] 26)
  have hr0 := heap_alloc_last w (.cells #[.slice none 0 0] 26)
  obtain ⟨W0, hW0⟩ : ∃ W0, w.alloc (.cells #[.slice none 0 0] 26) = W0 := ⟨_, rfl⟩
  rw [hW0] at hb0 hr0
  have HW0 := Lib.hid hW0
  have HB0 := Lib.hid hb0
  have hs0 : W0.heap.size = w.heap.size + 1 := by rw [← hW0]; simp
  have c1 := cell_kept hb0 hc
  have KR : Hid (∀ W, Below W0.heap.size W0 W → W.heap[w.heap.size]? = some (.cells #[.slice none 0 0] 26 (0, 0))) := fun W hb => (hb.block _ (Array.getElem?_eq_some_iff.1 hr0).1).trans hr0
  have CM := Lib.hid (reqMat_yes v ss W0 hN hz (hv.below hb0) (he.below hb0) hok)
  have hMM := matC_yes hok
  have CR : Hid (∀ W, Calls Tryd.prog 43 #[.agg (matC ss)] W (fun e w' => e = .returned (.agg (mat (row0 ss).size ss.length (dnH (rsFun (row0 ss).size ss.length (wordsOf ss)) ((gGrid (row0 ss).size ss.length V.w1 V.n1).list (ss.length * (row0 ss).size))))) ∧ Below W.heap.size W w')) := fun W => residue_any _ _ _ _ W hMM V.w1 V.w16 V.n1 V.n16 (words_lt V)
  have CP : Hid (∀ W, Calls Tryd.prog 44 #[.agg (mat (row0 ss).size ss.length (dnH (rsFun (row0 ss).size ss.length (wordsOf ss)) ((gGrid (row0 ss).size ss.length V.w1 V.n1).list (ss.length * (row0 ss).size))))] W (TookPic W (mkPic (row0 ss).size ss.length (rsF ss)))) := fun W => rs_pic V W
  obtain ⟨C, hC⟩ : ∃ C, matC ss = C := ⟨_, rfl⟩
  rw [hC] at CM CR
  obtain ⟨R, hR⟩ : ∃ R, mat (row0 ss).size ss.length (dnH (rsFun (row0 ss).size ss.length (wordsOf ss)) ((gGrid (row0 ss).size ss.length V.w1 V.n1).list (ss.length * (row0 ss).size))) = R := ⟨_, rfl⟩
  rw [hR] at CR CP
  obtain ⟨pic, hpic⟩ : ∃ p, mkPic (row0 ss).size ss.length (rsF ss) = p := ⟨_, rfl⟩
  rw [hpic] at CP ⊢
  unfold TookPic at CP
  have HS0 := Lib.hid hs0
  clear hb0 hr0 hW0 hv he hN hz hc hok hMM hC hR hpic V hs0
  go_enter Tryd.func41, Tryd.ntmps41
  go_upto_region 1 with fail
  rw [HW0.out]
  go_wp2_with fail
  refine CM.out.mono ?_
  rintro e w1 ⟨rfl, hb1⟩
  have B1 := Lib.hid hb1
  clear hb1 c1
  go_wp2_with fail
  refine (CR.out _).mono ?_
  rintro e w2 ⟨rfl, hb2⟩
  have B2 := Lib.hid (B1.out.trans (hb2.mono B1.out.size))
  clear hb2
  go_wp2_with fail
  refine (CP.out _).mono ?_
  rintro e w7 ⟨g7, cap7, rfl, hown7, hb7⟩
  have B3 := B2.out.trans (hb7.mono B2.out.size)
  have hp7 := KR.out _ B3
  have hfr : w7.frozen? ⟨w.heap.size, 0, none⟩ = false := free_of_one hp7
  have hc2 : w7.cell? ⟨w.heap.size, 0, none⟩ = some (.slice none 0 0) := cell_of_one hp7
  have hle : w.heap.size ≤ w2.heap.size := by have := HS0.out; have := B2.out.size; omega
  have O7 := Lib.hid (Joins.ownsRow_le (own_set (u := .slice (some ⟨g7, 0, none⟩) pic.length cap7) hown7 hp7 (by decide)) hle)
  have P7 := Lib.hid (one_setCell (u := .slice (some ⟨g7, 0, none⟩) pic.length cap7) hp7)
  have B7 := Lib.hid (HB0.out.trans (B3.mono HB0.out.size))
  clear hown7 hb7 hp7 B3
  go_wp2_with fail
  exact bodyPost_ret (results_cell1 (p := 1) (ty := 26) Tryd.results41 _ _ w.heap.size 26 #[.slice (some ⟨g7, 0, none⟩) pic.length cap7] (0, 0) _ rfl P7.out Tryd.underlying26 rfl (by kernel_rfl)) rfl ⟨g7, cap7, rfl, O7.out, B7.out.setCell (p := ⟨w.heap.size, 0, none⟩) (Nat.le_refl _) _⟩

set_option maxHeartbeats 2000000 in
set_option maxRecDepth 100000 in
theorem workResidueOf_no (pb : Nat) (v : Value) (ss : List ByteArray) (w : World) (hN : ss.length ≤ maxLen) (hz : ∀ s ∈ ss, s.size ≤ maxLen) (hv : Sl w v ss) (he : ErrLen w) (hn : NoRes w) (hc : w.cell? ⟨pb, 0, none⟩ = some v) (hok : validB ss = false) :
    Calls Tryd.prog 41 #[.pointer (some ⟨pb, 0, none⟩)] w (fun e w' => (∃ T x, e = .panicked [{ v := .iface T x, recovered := false }]) ∧ Below w.heap.size w w') := by
  have hb0 := Joins.below_alloc1 w (.cells #[.slice none 0 0] 26)
  obtain ⟨W0, hW0⟩ : ∃ W0, w.alloc (.cells #[.slice none 0 0] 26) = W0 := ⟨_, rfl⟩
  rw [hW0] at hb0
  have HW0 := Lib.hid hW0
  have HB0 := Lib.hid hb0
  have c1 := cell_kept hb0 hc
  have CM := Lib.hid (reqMat_no v ss W0 hN hz (hv.below hb0) (he.below hb0) (hn.below hb0) hok)
  clear hb0 hW0 hv he hN hz hc hok hn
  go_enter Tryd.func41, Tryd.ntmps41
  go_upto_region 1 with fail
  rw [HW0.out]
  go_wp2_with fail
  refine CM.out.mono ?_
  rintro e w1 ⟨⟨T, x, rfl⟩, hb1⟩
  have B1 := Lib.hid (HB0.out.trans (hb1.mono HB0.out.size))
  clear hb1 c1
  go_wp2_with fail
  exact ⟨rfl, ⟨T, x, rfl⟩, B1.out⟩

set_option maxHeartbeats 2000000 in
set_option maxRecDepth 100000 in
theorem impl_ResidueOf (v : Value) (ss : List ByteArray) (w : World) (hN : ss.length ≤ maxLen) (hz : ∀ s ∈ ss, s.size ≤ maxLen) (hv : Sl w v ss) (he : ErrLen w) (hr : NoRes w) :
    Calls Tryd.prog 13 #[.agg #[v]] w (SaysPic (rsP ss) (validB ss) w) := by
  have hmf : ∀ (fn : Fn) (first cap : Array Value) (w : World), (Instr.makeFunc fn first cap).run Tryd.prog w = .ok (.func fn first cap) w := fun _ _ _ _ => rfl
  obtain ⟨W0, hW0⟩ : ∃ W0, (w.alloc (.cells #[v] 26)).alloc (.cells #[.slice none 0 0] 26) = W0 := ⟨_, rfl⟩
  have hs0 : W0.heap.size = w.heap.size + 1 + 1 := by rw [← hW0]; simp
  have hb0 : Below w.heap.size w W0 := by rw [← hW0]; exact Joins.below_alloc2 _ _ _
  have p0 : W0.heap[w.heap.size]? = some (.cells #[v] 26 (0, 0)) := by
    rw [← hW0, Below.heap_alloc _ _ _ (by first | (simp; done) | (simp; omega))]; exact heap_alloc_last w _
  have p2 : W0.heap[w.heap.size + 1]? = some (.cells #[.slice none 0 0] 26 (0, 0)) := by
    rw [← hW0]
    exact heap_alloc2_new _ _ _
  have HW := Lib.hid hW0
  have HB0 := Lib.hid hb0
  have KR : Hid (∀ W, Below W0.heap.size W0 W → W.heap[w.heap.size + 1]? = some (.cells #[.slice none 0 0] 26 (0, 0))) := fun W hb => (hb.block _ (by omega)).trans p2
  cases hok : validB ss with
  | false =>
    have e1 : Hid (rsP ss = []) := rsP_no hok
    have C := Lib.hid (attemptPi_no 41 #[.pointer (some ⟨w.heap.size, 0, none⟩)] W0 call_ResidueOf1 (fun W hb => workResidueOf_no w.heap.size v ss W hN hz ((hv.below hb0).below hb) ((he.below hb0).below hb) ((hr.below hb0).below hb) (cell_kept hb (cell_of_one p0)) hok))
    rw [e1.out]
    clear hv hr he hok e1 p0 p2 hb0 hW0 hs0 hN hz
    go_enter Tryd.func13, Tryd.ntmps13
    go_upto_region 1 with fail
    rw [HW.out]
    go_wp2_with fail
    refine C.out.mono ?_
    rintro e w1 ⟨rfl, hb1⟩
    have hp1 := KR.out _ hb1
    have hfr : w1.frozen? ⟨w.heap.size + 1, 0, none⟩ = false := free_of_one hp1
    have hc2 : w1.cell? ⟨w.heap.size + 1, 0, none⟩ = some (.slice none 0 0) := cell_of_one hp1
    have B1 : Hid (Below w.heap.size w w1) := HB0.out.trans (hb1.mono HB0.out.size)
    have P1 := Lib.hid hp1
    clear hb1 hp1
    go_wp2_with fail
    refine bodyPost_ret (v := .tuple #[.agg #[.slice none 0 0], .bool false]) (by simp [results, Tryd.results13, go_sem, cell_of_one (one_setCell P1.out)]) rfl ⟨_, _, _, rfl, World.ownsRow_nil _ _ _ _, B1.out.setCell (by show w.heap.size ≤ w.heap.size + 1; omega) _⟩
  | true =>
    have e1 : Hid (rsP ss = mkPic (row0 ss).size ss.length (rsF ss)) := rsP_yes hok
    have C := Lib.hid (attemptPi_yes 41 #[.pointer (some ⟨w.heap.size, 0, none⟩)] W0 (fun u W w' => Below W0.heap.size W0 W → ∃ g c, u = .agg #[.slice (some ⟨g, 0, none⟩) (mkPic (row0 ss).size ss.length (rsF ss)).length c] ∧ OwnP w' W.heap.size (.slice (some ⟨g, 0, none⟩) (mkPic (row0 ss).size ss.length (rsF ss)).length c) (mkPic (row0 ss).size ss.length (rsF ss))) call_ResidueOf1 (fun W hb => (workResidueOf_yes w.heap.size v ss W hN hz ((hv.below hb0).below hb) ((he.below hb0).below hb) (cell_kept hb (cell_of_one p0)) hok).mono fun e w' ⟨g, c, h1, h2, h3⟩ => ⟨_, _, _, h1, fun _ => ⟨g, c, rfl, h2⟩, h3⟩))
    rw [e1.out]
    obtain ⟨pic, hpic⟩ : ∃ p, mkPic (row0 ss).size ss.length (rsF ss) = p := ⟨_, rfl⟩
    rw [hpic] at C ⊢
    clear hv hr he hok e1 p0 p2 hb0 hW0 hpic hN hz
    go_enter Tryd.func13, Tryd.ntmps13
    go_upto_region 1 with fail
    rw [HW.out]
    go_wp2_with fail
    refine C.out.mono ?_
    rintro e w9 ⟨a5, n5, c5, w1, rfl, hQ, hb1, rfl, hr1, hr2⟩
    obtain ⟨g, c, hu, hown⟩ := hQ (Joins.below_alloc2 _ _ _)
    injection hu with hu
    have hu2 : Value.slice a5 n5 c5 = .slice (some ⟨g, 0, none⟩) pic.length c := by
      have := congrArg (fun a : Array Value => a[0]?) hu
      simpa using this
    injection hu2 with h1 h2 h3
    subst h1 h2 h3
    have hr3 : (w1.setCell ⟨W0.heap.size, 0, none⟩ (.slice (some ⟨g, 0, none⟩) pic.length c5)).heap[W0.heap.size + 1]? = some (.cells #[.bool false] 4 (0, 0)) := (Below.heap_setCell _ _ _ _ (by simp)).trans hr2
    have o1 := own_set (u := .slice (some ⟨g, 0, none⟩) pic.length c5) hown hr1 (by decide)
    have o2 := own_set (u := .bool true) o1 hr3 (by decide)
    have hbe : Below W0.heap.size W0 ((w1.setCell ⟨W0.heap.size, 0, none⟩ (.slice (some ⟨g, 0, none⟩) pic.length c5)).setCell ⟨W0.heap.size + 1, 0, none⟩ (.bool true)) := (hb1.setCell (by simp) _).setCell (by simp) _
    have o3 : OwnP _ _ _ _ := OwnP.mono o2 (show w.heap.size ≤ _ by simp; omega)
    obtain ⟨W9, hW9⟩ : ∃ W9, ((w1.setCell ⟨W0.heap.size, 0, none⟩ (.slice (some ⟨g, 0, none⟩) pic.length c5)).setCell ⟨W0.heap.size + 1, 0, none⟩ (.bool true)) = W9 := ⟨_, rfl⟩
    rw [hW9] at hbe o3 ⊢
    have hp1 := KR.out _ hbe
    have hfr : W9.frozen? ⟨w.heap.size + 1, 0, none⟩ = false := free_of_one hp1
    have hc2 : W9.cell? ⟨w.heap.size + 1, 0, none⟩ = some (.slice none 0 0) := cell_of_one hp1
    have O2 := Lib.hid (own_set (u := .slice (some ⟨g, 0, none⟩) pic.length c5) o3 hp1 (by decide))
    have P5 := Lib.hid hp1
    have B5 := Lib.hid (HB0.out.trans (hbe.mono HB0.out.size))
    clear hQ hb1 hr1 hr2 hown hu hr3 o1 o2 hbe o3 hW9 hp1
    go_wp2_with fail
    refine bodyPost_ret (v := .tuple #[.agg #[.slice (some ⟨g, 0, none⟩) pic.length c5], .bool true]) (by simp [results, Tryd.results13, go_sem, cell_of_one (one_setCell P5.out)]) rfl ⟨_, _, _, rfl, O2.out, B5.out.setCell (by show w.heap.size ≤ w.heap.size + 1; omega) _⟩
end Go.Proofs.YtnmnlbgialolhaaDoor

/- Contracts of single functions, and plain lemmas, on which the exact laws of this seat rest; each holds under the conditions that it states. -/
namespace Go.Proofs.YtnmnlbgialolhaaDoor
set_option linter.unusedVariables false
set_option linter.unusedSimpArgs false
open Go.RowKit
attribute [local go_sem] Oper.semAt_some

theorem call_FromResidue1 (args : Array Value) (W : World) : (callFunc 49 args).run Tryd.prog W = .ok (.enter 49 args) W := by simp [go_sem]

set_option maxHeartbeats 2000000 in
set_option maxRecDepth 100000 in
theorem workFromResidue_yes (pb : Nat) (v : Value) (ss : List ByteArray) (w : World) (hN : ss.length ≤ maxLen) (hz : ∀ s ∈ ss, s.size ≤ maxLen) (hv : Sl w v ss) (he : ErrLen w) (hc : w.cell? ⟨pb, 0, none⟩ = some v) (hok : validB ss = true) :
    Calls Tryd.prog 49 #[.pointer (some ⟨pb, 0, none⟩)] w (TookPic w (mkPic (row0 ss).size ss.length (frF ss))) := by
  have V := vp_of hok
  have hb0 := Joins.below_alloc1 w (.cells #[.slice none 0 0] 26)
  have hr0 := heap_alloc_last w (.cells #[.slice none 0 0] 26)
  obtain ⟨W0, hW0⟩ : ∃ W0, w.alloc (.cells #[.slice none 0 0] 26) = W0 := ⟨_, rfl⟩
  rw [hW0] at hb0 hr0
  have HW0 := Lib.hid hW0
  have HB0 := Lib.hid hb0
  have hs0 : W0.heap.size = w.heap.size + 1 := by rw [← hW0]; simp
  have c1 := cell_kept hb0 hc
  have KR : Hid (∀ W, Below W0.heap.size W0 W → W.heap[w.heap.size]? = some (.cells #[.slice none 0 0] 26 (0, 0))) := fun W hb => (hb.block _ (Array.getElem?_eq_some_iff.1 hr0).1).trans hr0
  have CM := Lib.hid (reqMat_yes v ss W0 hN hz (hv.below hb0) (he.below hb0) hok)
  have hMM := matC_yes hok
  have CR : Hid (∀ W, Calls Tryd.prog 50 #[.agg (matC ss)] W (fun e w' => e = .returned (.agg (mat (row0 ss).size ss.length (dnH (frFun (row0 ss).size ss.length (wordsOf ss)) ((gGrid (row0 ss).size ss.length V.w1 V.n1).list (ss.length * (row0 ss).size))))) ∧ Below W.heap.size W w')) := fun W => fromRes_any _ _ _ _ W hMM V.w1 V.w16 V.n1 V.n16 (words_lt V)
  have CP : Hid (∀ W, Calls Tryd.prog 44 #[.agg (mat (row0 ss).size ss.length (dnH (frFun (row0 ss).size ss.length (wordsOf ss)) ((gGrid (row0 ss).size ss.length V.w1 V.n1).list (ss.length * (row0 ss).size))))] W (TookPic W (mkPic (row0 ss).size ss.length (frF ss)))) := fun W => fr_pic V W
  obtain ⟨C, hC⟩ : ∃ C, matC ss = C := ⟨_, rfl⟩
  rw [hC] at CM CR
  obtain ⟨R, hR⟩ : ∃ R, mat (row0 ss).size ss.length (dnH (frFun (row0 ss).size ss.length (wordsOf ss)) ((gGrid (row0 ss).size ss.length V.w1 V.n1).list (ss.length * (row0 ss).size))) = R := ⟨_, rfl⟩
  rw [hR] at CR CP
  obtain ⟨pic, hpic⟩ : ∃ p, mkPic (row0 ss).size ss.length (frF ss) = p := ⟨_, rfl⟩
  rw [hpic] at CP ⊢
  unfold TookPic at CP
  have HS0 := Lib.hid hs0
  clear hb0 hr0 hW0 hv he hN hz hc hok hMM hC hR hpic V hs0
  go_enter Tryd.func49, Tryd.ntmps49
  go_upto_region 1 with fail
  rw [HW0.out]
  go_wp2_with fail
  refine CM.out.mono ?_
  rintro e w1 ⟨rfl, hb1⟩
  have B1 := Lib.hid hb1
  clear hb1 c1
  go_wp2_with fail
  refine (CR.out _).mono ?_
  rintro e w2 ⟨rfl, hb2⟩
  have B2 := Lib.hid (B1.out.trans (hb2.mono B1.out.size))
  clear hb2
  go_wp2_with fail
  refine (CP.out _).mono ?_
  rintro e w7 ⟨g7, cap7, rfl, hown7, hb7⟩
  have B3 := B2.out.trans (hb7.mono B2.out.size)
  have hp7 := KR.out _ B3
  have hfr : w7.frozen? ⟨w.heap.size, 0, none⟩ = false := free_of_one hp7
  have hc2 : w7.cell? ⟨w.heap.size, 0, none⟩ = some (.slice none 0 0) := cell_of_one hp7
  have hle : w.heap.size ≤ w2.heap.size := by have := HS0.out; have := B2.out.size; omega
  have O7 := Lib.hid (Joins.ownsRow_le (own_set (u := .slice (some ⟨g7, 0, none⟩) pic.length cap7) hown7 hp7 (by decide)) hle)
  have P7 := Lib.hid (one_setCell (u := .slice (some ⟨g7, 0, none⟩) pic.length cap7) hp7)
  have B7 := Lib.hid (HB0.out.trans (B3.mono HB0.out.size))
  clear hown7 hb7 hp7 B3
  go_wp2_with fail
  exact bodyPost_ret (results_cell1 (p := 1) (ty := 26) Tryd.results49 _ _ w.heap.size 26 #[.slice (some ⟨g7, 0, none⟩) pic.length cap7] (0, 0) _ rfl P7.out Tryd.underlying26 rfl (by kernel_rfl)) rfl ⟨g7, cap7, rfl, O7.out, B7.out.setCell (p := ⟨w.heap.size, 0, none⟩) (Nat.le_refl _) _⟩

set_option maxHeartbeats 2000000 in
set_option maxRecDepth 100000 in
theorem workFromResidue_no (pb : Nat) (v : Value) (ss : List ByteArray) (w : World) (hN : ss.length ≤ maxLen) (hz : ∀ s ∈ ss, s.size ≤ maxLen) (hv : Sl w v ss) (he : ErrLen w) (hn : NoRes w) (hc : w.cell? ⟨pb, 0, none⟩ = some v) (hok : validB ss = false) :
    Calls Tryd.prog 49 #[.pointer (some ⟨pb, 0, none⟩)] w (fun e w' => (∃ T x, e = .panicked [{ v := .iface T x, recovered := false }]) ∧ Below w.heap.size w w') := by
  have hb0 := Joins.below_alloc1 w (.cells #[.slice none 0 0] 26)
  obtain ⟨W0, hW0⟩ : ∃ W0, w.alloc (.cells #[.slice none 0 0] 26) = W0 := ⟨_, rfl⟩
  rw [hW0] at hb0
  have HW0 := Lib.hid hW0
  have HB0 := Lib.hid hb0
  have c1 := cell_kept hb0 hc
  have CM := Lib.hid (reqMat_no v ss W0 hN hz (hv.below hb0) (he.below hb0) (hn.below hb0) hok)
  clear hb0 hW0 hv he hN hz hc hok hn
  go_enter Tryd.func49, Tryd.ntmps49
  go_upto_region 1 with fail
  rw [HW0.out]
  go_wp2_with fail
  refine CM.out.mono ?_
  rintro e w1 ⟨⟨T, x, rfl⟩, hb1⟩
  have B1 := Lib.hid (HB0.out.trans (hb1.mono HB0.out.size))
  clear hb1 c1
  go_wp2_with fail
  exact ⟨rfl, ⟨T, x, rfl⟩, B1.out⟩

set_option maxHeartbeats 2000000 in
set_option maxRecDepth 100000 in
theorem impl_FromResidue (v : Value) (ss : List ByteArray) (w : World) (hN : ss.length ≤ maxLen) (hz : ∀ s ∈ ss, s.size ≤ maxLen) (hv : Sl w v ss) (he : ErrLen w) (hr : NoRes w) :
    Calls Tryd.prog 18 #[.agg #[v]] w (SaysPic (frP ss) (validB ss) w) := by
  have hmf : ∀ (fn : Fn) (first cap : Array Value) (w : World), (Instr.makeFunc fn first cap).run Tryd.prog w = .ok (.func fn first cap) w := fun _ _ _ _ => rfl
  obtain ⟨W0, hW0⟩ : ∃ W0, (w.alloc (.cells #[v] 26)).alloc (.cells #[.slice none 0 0] 26) = W0 := ⟨_, rfl⟩
  have hs0 : W0.heap.size = w.heap.size + 1 + 1 := by rw [← hW0]; simp
  have hb0 : Below w.heap.size w W0 := by rw [← hW0]; exact Joins.below_alloc2 _ _ _
  have p0 : W0.heap[w.heap.size]? = some (.cells #[v] 26 (0, 0)) := by
    rw [← hW0, Below.heap_alloc _ _ _ (by first | (simp; done) | (simp; omega))]; exact heap_alloc_last w _
  have p2 : W0.heap[w.heap.size + 1]? = some (.cells #[.slice none 0 0] 26 (0, 0)) := by
    rw [← hW0]
    exact heap_alloc2_new _ _ _
  have HW := Lib.hid hW0
  have HB0 := Lib.hid hb0
  have KR : Hid (∀ W, Below W0.heap.size W0 W → W.heap[w.heap.size + 1]? = some (.cells #[.slice none 0 0] 26 (0, 0))) := fun W hb => (hb.block _ (by omega)).trans p2
  cases hok : validB ss with
  | false =>
    have e1 : Hid (frP ss = []) := frP_no hok
    have C := Lib.hid (attemptPi_no 49 #[.pointer (some ⟨w.heap.size, 0, none⟩)] W0 call_FromResidue1 (fun W hb => workFromResidue_no w.heap.size v ss W hN hz ((hv.below hb0).below hb) ((he.below hb0).below hb) ((hr.below hb0).below hb) (cell_kept hb (cell_of_one p0)) hok))
    rw [e1.out]
    clear hv hr he hok e1 p0 p2 hb0 hW0 hs0 hN hz
    go_enter Tryd.func18, Tryd.ntmps18
    go_upto_region 1 with fail
    rw [HW.out]
    go_wp2_with fail
    refine C.out.mono ?_
    rintro e w1 ⟨rfl, hb1⟩
    have hp1 := KR.out _ hb1
    have hfr : w1.frozen? ⟨w.heap.size + 1, 0, none⟩ = false := free_of_one hp1
    have hc2 : w1.cell? ⟨w.heap.size + 1, 0, none⟩ = some (.slice none 0 0) := cell_of_one hp1
    have B1 : Hid (Below w.heap.size w w1) := HB0.out.trans (hb1.mono HB0.out.size)
    have P1 := Lib.hid hp1
    clear hb1 hp1
    go_wp2_with fail
    refine bodyPost_ret (v := .tuple #[.agg #[.slice none 0 0], .bool false]) (by simp [results, Tryd.results18, go_sem, cell_of_one (one_setCell P1.out)]) rfl ⟨_, _, _, rfl, World.ownsRow_nil _ _ _ _, B1.out.setCell (by show w.heap.size ≤ w.heap.size + 1; omega) _⟩
  | true =>
    have e1 : Hid (frP ss = mkPic (row0 ss).size ss.length (frF ss)) := frP_yes hok
    have C := Lib.hid (attemptPi_yes 49 #[.pointer (some ⟨w.heap.size, 0, none⟩)] W0 (fun u W w' => Below W0.heap.size W0 W → ∃ g c, u = .agg #[.slice (some ⟨g, 0, none⟩) (mkPic (row0 ss).size ss.length (frF ss)).length c] ∧ OwnP w' W.heap.size (.slice (some ⟨g, 0, none⟩) (mkPic (row0 ss).size ss.length (frF ss)).length c) (mkPic (row0 ss).size ss.length (frF ss))) call_FromResidue1 (fun W hb => (workFromResidue_yes w.heap.size v ss W hN hz ((hv.below hb0).below hb) ((he.below hb0).below hb) (cell_kept hb (cell_of_one p0)) hok).mono fun e w' ⟨g, c, h1, h2, h3⟩ => ⟨_, _, _, h1, fun _ => ⟨g, c, rfl, h2⟩, h3⟩))
    rw [e1.out]
    obtain ⟨pic, hpic⟩ : ∃ p, mkPic (row0 ss).size ss.length (frF ss) = p := ⟨_, rfl⟩
    rw [hpic] at C ⊢
    clear hv hr he hok e1 p0 p2 hb0 hW0 hpic hN hz
    go_enter Tryd.func18, Tryd.ntmps18
    go_upto_region 1 with fail
    rw [HW.out]
    go_wp2_with fail
    refine C.out.mono ?_
    rintro e w9 ⟨a5, n5, c5, w1, rfl, hQ, hb1, rfl, hr1, hr2⟩
    obtain ⟨g, c, hu, hown⟩ := hQ (Joins.below_alloc2 _ _ _)
    injection hu with hu
    have hu2 : Value.slice a5 n5 c5 = .slice (some ⟨g, 0, none⟩) pic.length c := by
      have := congrArg (fun a : Array Value => a[0]?) hu
      simpa using this
    injection hu2 with h1 h2 h3
    subst h1 h2 h3
    have hr3 : (w1.setCell ⟨W0.heap.size, 0, none⟩ (.slice (some ⟨g, 0, none⟩) pic.length c5)).heap[W0.heap.size + 1]? = some (.cells #[.bool false] 4 (0, 0)) := (Below.heap_setCell _ _ _ _ (by simp)).trans hr2
    have o1 := own_set (u := .slice (some ⟨g, 0, none⟩) pic.length c5) hown hr1 (by decide)
    have o2 := own_set (u := .bool true) o1 hr3 (by decide)
    have hbe : Below W0.heap.size W0 ((w1.setCell ⟨W0.heap.size, 0, none⟩ (.slice (some ⟨g, 0, none⟩) pic.length c5)).setCell ⟨W0.heap.size + 1, 0, none⟩ (.bool true)) := (hb1.setCell (by simp) _).setCell (by simp) _
    have o3 : OwnP _ _ _ _ := OwnP.mono o2 (show w.heap.size ≤ _ by simp; omega)
    obtain ⟨W9, hW9⟩ : ∃ W9, ((w1.setCell ⟨W0.heap.size, 0, none⟩ (.slice (some ⟨g, 0, none⟩) pic.length c5)).setCell ⟨W0.heap.size + 1, 0, none⟩ (.bool true)) = W9 := ⟨_, rfl⟩
    rw [hW9] at hbe o3 ⊢
    have hp1 := KR.out _ hbe
    have hfr : W9.frozen? ⟨w.heap.size + 1, 0, none⟩ = false := free_of_one hp1
    have hc2 : W9.cell? ⟨w.heap.size + 1, 0, none⟩ = some (.slice none 0 0) := cell_of_one hp1
    have O2 := Lib.hid (own_set (u := .slice (some ⟨g, 0, none⟩) pic.length c5) o3 hp1 (by decide))
    have P5 := Lib.hid hp1
    have B5 := Lib.hid (HB0.out.trans (hbe.mono HB0.out.size))
    clear hQ hb1 hr1 hr2 hown hu hr3 o1 o2 hbe o3 hW9 hp1
    go_wp2_with fail
    refine bodyPost_ret (v := .tuple #[.agg #[.slice (some ⟨g, 0, none⟩) pic.length c5], .bool true]) (by simp [results, Tryd.results18, go_sem, cell_of_one (one_setCell P5.out)]) rfl ⟨_, _, _, rfl, O2.out, B5.out.setCell (by show w.heap.size ≤ w.heap.size + 1; omega) _⟩
end Go.Proofs.YtnmnlbgialolhaaDoor

/- Contracts of single functions, and plain lemmas, on which the exact laws of this seat rest; each holds under the conditions that it states. -/
namespace Go.Proofs.YtnmnlbgialolhaaDoor
set_option linter.unusedVariables false
set_option linter.unusedSimpArgs false
open Go.RowKit
attribute [local go_sem] Oper.semAt_some

theorem mem_sizeR {ss : List ByteArray} (hok : validB ss = true) : ∀ s ∈ ss, s.size ≤ maxLen := by
  have V := vp_of hok
  intro s hs
  obtain ⟨j, hj, rfl⟩ := List.getElem_of_mem hs
  have h1 := (V.rows j hj).1
  have h2 := V.w16
  rw [List.getD_eq_getElem?_getD, List.getElem?_eq_getElem hj] at h1
  have h3 : (ss[j]'hj).size = (row0 ss).size := h1
  unfold maxLen; omega
theorem len_maxR {ss : List ByteArray} (hok : validB ss = true) : ss.length ≤ maxLen := by
  have := (vp_of hok).n16
  unfold maxLen; omega

set_option maxHeartbeats 8000000 in
set_option maxRecDepth 100000 in
theorem law_FnResidues (v0 v1 : Value) (ns ms : List Nat) (w : World) (hv0 : SlY w v0 ns) (hv1 : SlY w v1 ms) (hby0 : ∀ i, ns.getD i 0 < 256) (hby1 : ∀ i, ms.getD i 0 < 256) (he : ErrLen w) (hN : NoRes w) :
    Calls Tryd.prog 9 #[v0, v1] w fun e w' => e = .returned (.bool true) ∧ Below w.heap.size w w' := by
  have CL := Lib.hid (r8Long_any v0 v1 ns ms w hv0 hv1)
  cases hl : (decide (48 < ns.length) || decide (48 < ms.length)) with
  | true =>
    rw [hl] at CL
    obtain ⟨ao, cap, rfl⟩ := hv0.form
    obtain ⟨ao1, cap1, rfl⟩ := hv1.form
    clear hv0 hv1 hN hl he hby0 hby1
    go_enter Tryd.func9, Tryd.ntmps9
    go_wp2_with fail
    refine CL.out.mono ?_
    rintro e w' ⟨rfl, rfl⟩
    go_wp2_with fail
    go_ret
    exact ⟨rfl, Below.refl _ _⟩
  | false =>
    rw [hl] at CL
    have hl2 : ns.length ≤ 48 ∧ ms.length ≤ 48 := by simp at hl; omega
    have CP := Lib.hid (fun W (hb : Below w.heap.size w W) => R8Picture_any v0 ns W (hv0.below hb) hby0 (by unfold maxLen; omega))
    have HE : Hid (∀ W, Below w.heap.size w W → ErrLen W) := fun W hb => he.below hb
    have HN : Hid (∀ W, Below w.heap.size w W → NoRes W) := fun W hb => hN.below hb
    obtain ⟨ao, capA0, rfl⟩ := hv0.form
    obtain ⟨ao1, capA1, rfl⟩ := hv1.form
    have B0 := Lib.hid (Below.refl w.heap.size w)
    clear hv0 hv1 hby0 hby1 he hN hl hl2
    go_enter Tryd.func9, Tryd.ntmps9
    go_wp2_with fail
    refine CL.out.mono ?_
    rintro e w9 ⟨rfl, rfl⟩
    go_wp2_with fail
    refine (CP.out w B0.out).mono ?_
    rintro e u1 ⟨a, b, ha8, hb8, f, g1, cap1, rfl, hown, hb⟩
    have hsl := OwnP.sl hown
    have B1 := Lib.hid ((B0.out.trans (hb.mono B0.out.size)).alloc (B0.out.trans (hb.mono B0.out.size)).size (.cells #[.slice (some ⟨g1, 0, none⟩) b cap1] 26))
    have P_p1 := Lib.hid (PV.new hsl)
    obtain ⟨W1, hW⟩ : ∃ W, u1.alloc (.cells #[.slice (some ⟨g1, 0, none⟩) b cap1] 26) = W := ⟨_, rfl⟩
    obtain ⟨b_p, hq⟩ : ∃ q, u1.heap.size = q := ⟨_, rfl⟩
    rw [hW] at B1 P_p1
    rw [hq] at P_p1
    have EW1 := Lib.hid hW
    have EQ1 := Lib.hid hq
    clear hW hq hsl hown hb  
    have hA : 1 ≤ a ∧ a ≤ 16 := by omega
    have hB : 1 ≤ b ∧ b ≤ 16 := by omega
    have VM := Lib.hid (fun f => mkPic_valid a b f hA hB)
    have R0 := Lib.hid (fun f => mkPic_row0 a b f hB.1)
    have CR : Hid (∀ u k W, Below w.heap.size w W → Sl W u (mkPic a b k) → Calls Tryd.prog 13 #[.agg #[u]] W (SaysPic (mkPic a b (rsF (mkPic a b k))) true W)) := fun u k W hb hu => by
      have := impl_ResidueOf u (mkPic a b k) W (len_maxR (VM.out k)) (mem_sizeR (VM.out k)) hu (HE.out W hb) (HN.out W hb)
      rw [VM.out k, rsP_yes (VM.out k), R0.out, mkPic_len] at this
      exact this
    have CF : Hid (∀ u k W, Below w.heap.size w W → Sl W u (mkPic a b k) → Calls Tryd.prog 18 #[.agg #[u]] W (SaysPic (mkPic a b (frF (mkPic a b k))) true W)) := fun u k W hb hu => by
      have := impl_FromResidue u (mkPic a b k) W (len_maxR (VM.out k)) (mem_sizeR (VM.out k)) hu (HE.out W hb) (HN.out W hb)
      rw [VM.out k, frP_yes (VM.out k), R0.out, mkPic_len] at this
      exact this
    have CS : Hid (∀ x y k W, Sl W x (mkPic a b k) → Sl W y (mkPic a b k) → Calls Tryd.prog 34 #[.agg #[x], .agg #[y]] W (SaysB true W)) := fun x y k W hx hy => r8Same_yes x y _ W hx hy (by rw [mkPic_len]; exact hB.1) (by rw [mkPic_len]; exact hB.2)
    have CBk : Hid (∀ v k (x y : Int) W, Sl W v (mkPic a b k) → Calls Tryd.prog 35 #[.agg #[v], .int .i64 x, .int .i64 y] W (SaysB (pixI (mkPic a b k) x y) W)) := fun v k x y W hs => r8Black_any v (mkPic a b k) x y W hs (VM.out k)
    have hback : mkPic a b (frF (mkPic a b (rsF (mkPic a b f)))) = mkPic a b f := mkPic_congr fun y hy x hx => fr_rs a b f _ y x (Nat.le_refl _) hy hx
    have hagain : mkPic a b (rsF (mkPic a b (frF (mkPic a b f)))) = mkPic a b f := mkPic_congr fun y hy x hx => rs_fr a b f y x hy hx
    unfold SaysPic at CR CF
    unfold SaysB at CS CBk
    clear VM
    have c_p : (u1.alloc (.cells #[.slice (some ⟨g1, 0, none⟩) b cap1] 26)).cell? ⟨u1.heap.size, 0, none⟩ = some (.slice (some ⟨g1, 0, none⟩) b cap1) := by
      rw [EW1.out, EQ1.out]
      exact P_p1.out.cell
    go_wp2_with fail
    rw [EW1.out, EQ1.out]
    refine (CR.out _ _ W1 B1.out P_p1.out.sl).mono ?_
    rintro e u2 ⟨ao2, n2, cap2, rfl, hown, hb⟩
    have hsl := OwnP.sl hown
    have B2 := Lib.hid ((B1.out.trans (hb.mono B1.out.size)).alloc (B1.out.trans (hb.mono B1.out.size)).size (.cells #[.slice ao2 n2 cap2] 26))
    have P_p2 := Lib.hid ((P_p1.out.below hb).alloc (.cells #[.slice ao2 n2 cap2] 26))
    have P_r2 := Lib.hid (PV.new hsl)
    obtain ⟨W2, hW⟩ : ∃ W, u2.alloc (.cells #[.slice ao2 n2 cap2] 26) = W := ⟨_, rfl⟩
    obtain ⟨b_r, hq⟩ : ∃ q, u2.heap.size = q := ⟨_, rfl⟩
    rw [hW] at B2 P_p2 P_r2
    rw [hq] at P_r2
    have EW2 := Lib.hid hW
    have EQ2 := Lib.hid hq
    clear hW hq hsl hown hb c_p P_p1
    have c_r : (u2.alloc (.cells #[.slice ao2 n2 cap2] 26)).cell? ⟨u2.heap.size, 0, none⟩ = some (.slice ao2 n2 cap2) := by
      rw [EW2.out, EQ2.out]
      exact P_r2.out.cell
    go_wp2_with fail
    rw [EW2.out, EQ2.out]
    refine (CF.out _ _ W2 B2.out P_r2.out.sl).mono ?_
    rintro e u3 ⟨ao3, n3, cap3, rfl, hown, hb⟩
    have hsl := OwnP.sl hown
    have B3 := Lib.hid ((B2.out.trans (hb.mono B2.out.size)).alloc (B2.out.trans (hb.mono B2.out.size)).size (.cells #[.slice ao3 n3 cap3] 26))
    have P_p3 := Lib.hid ((P_p2.out.below hb).alloc (.cells #[.slice ao3 n3 cap3] 26))
    have P_r3 := Lib.hid ((P_r2.out.below hb).alloc (.cells #[.slice ao3 n3 cap3] 26))
    have P_k3 := Lib.hid (PV.new hsl)
    obtain ⟨W3, hW⟩ : ∃ W, u3.alloc (.cells #[.slice ao3 n3 cap3] 26) = W := ⟨_, rfl⟩
    obtain ⟨b_k, hq⟩ : ∃ q, u3.heap.size = q := ⟨_, rfl⟩
    rw [hW] at B3 P_p3 P_r3 P_k3
    rw [hq] at P_k3
    have EW3 := Lib.hid hW
    have EQ3 := Lib.hid hq
    clear hW hq hsl hown hb c_r P_p2 P_r2
    rw [hback] at P_k3
    have c_p : (u3.alloc (.cells #[.slice ao3 n3 cap3] 26)).cell? ⟨b_p, 0, none⟩ = some (.slice (some ⟨g1, 0, none⟩) b cap1) := by
      rw [EW3.out]
      exact P_p3.out.cell
    go_wp2_with fail
    rw [EW3.out, EQ3.out]
    refine (CF.out _ _ W3 B3.out P_p3.out.sl).mono ?_
    rintro e u4 ⟨ao4, n4, cap4, rfl, hown, hb⟩
    have hsl := OwnP.sl hown
    have B4 := Lib.hid ((B3.out.trans (hb.mono B3.out.size)).alloc (B3.out.trans (hb.mono B3.out.size)).size (.cells #[.slice ao4 n4 cap4] 26))
    have P_p4 := Lib.hid ((P_p3.out.below hb).alloc (.cells #[.slice ao4 n4 cap4] 26))
    have P_r4 := Lib.hid ((P_r3.out.below hb).alloc (.cells #[.slice ao4 n4 cap4] 26))
    have P_k4 := Lib.hid ((P_k3.out.below hb).alloc (.cells #[.slice ao4 n4 cap4] 26))
    have P_m4 := Lib.hid (PV.new hsl)
    obtain ⟨W4, hW⟩ : ∃ W, u4.alloc (.cells #[.slice ao4 n4 cap4] 26) = W := ⟨_, rfl⟩
    obtain ⟨b_m, hq⟩ : ∃ q, u4.heap.size = q := ⟨_, rfl⟩
    rw [hW] at B4 P_p4 P_r4 P_k4 P_m4
    rw [hq] at P_m4
    have EW4 := Lib.hid hW
    have EQ4 := Lib.hid hq
    clear hW hq hsl hown hb c_p P_p3 P_r3 P_k3
    have c_m : (u4.alloc (.cells #[.slice ao4 n4 cap4] 26)).cell? ⟨u4.heap.size, 0, none⟩ = some (.slice ao4 n4 cap4) := by
      rw [EW4.out, EQ4.out]
      exact P_m4.out.cell
    go_wp2_with fail
    rw [EW4.out, EQ4.out]
    refine (CR.out _ _ W4 B4.out P_m4.out.sl).mono ?_
    rintro e u5 ⟨ao5, n5, cap5, rfl, hown, hb⟩
    have hsl := OwnP.sl hown
    have B5 := Lib.hid ((B4.out.trans (hb.mono B4.out.size)).alloc (B4.out.trans (hb.mono B4.out.size)).size (.cells #[.slice ao5 n5 cap5] 26))
    have P_p5 := Lib.hid ((P_p4.out.below hb).alloc (.cells #[.slice ao5 n5 cap5] 26))
    have P_r5 := Lib.hid ((P_r4.out.below hb).alloc (.cells #[.slice ao5 n5 cap5] 26))
    have P_k5 := Lib.hid ((P_k4.out.below hb).alloc (.cells #[.slice ao5 n5 cap5] 26))
    have P_m5 := Lib.hid ((P_m4.out.below hb).alloc (.cells #[.slice ao5 n5 cap5] 26))
    have P_n5 := Lib.hid (PV.new hsl)
    obtain ⟨W5, hW⟩ : ∃ W, u5.alloc (.cells #[.slice ao5 n5 cap5] 26) = W := ⟨_, rfl⟩
    obtain ⟨b_n, hq⟩ : ∃ q, u5.heap.size = q := ⟨_, rfl⟩
    rw [hW] at B5 P_p5 P_r5 P_k5 P_m5 P_n5
    rw [hq] at P_n5
    have EW5 := Lib.hid hW
    have EQ5 := Lib.hid hq
    clear hW hq hsl hown hb c_m P_p4 P_r4 P_k4 P_m4
    rw [hagain] at P_n5
    have c_k : (u5.alloc (.cells #[.slice ao5 n5 cap5] 26)).cell? ⟨b_k, 0, none⟩ = some (.slice ao3 n3 cap3) := by
      rw [EW5.out]
      exact P_k5.out.cell
    have c_p : (u5.alloc (.cells #[.slice ao5 n5 cap5] 26)).cell? ⟨b_p, 0, none⟩ = some (.slice (some ⟨g1, 0, none⟩) b cap1) := by
      rw [EW5.out]
      exact P_p5.out.cell
    go_wp2_with fail
    rw [EW5.out, EQ5.out]
    refine (CS.out _ _ _ W5 P_k5.out.sl P_p5.out.sl).mono ?_
    rintro e u6 ⟨rfl, hb⟩
    have B6 := Lib.hid (B5.out.trans (hb.mono B5.out.size))
    have P_p6 := Lib.hid (P_p5.out.below hb)
    have P_r6 := Lib.hid (P_r5.out.below hb)
    have P_k6 := Lib.hid (P_k5.out.below hb)
    have P_m6 := Lib.hid (P_m5.out.below hb)
    have P_n6 := Lib.hid (P_n5.out.below hb)
    clear hb c_k c_p P_p5 P_r5 P_k5 P_m5 P_n5
    have c_n := P_n6.out.cell
    have c_p := P_p6.out.cell
    go_wp2_with fail
    refine (CS.out _ _ _ u6 P_n6.out.sl P_p6.out.sl).mono ?_
    rintro e u7 ⟨rfl, hb⟩
    have B7 := Lib.hid (B6.out.trans (hb.mono B6.out.size))
    have P_p7 := Lib.hid (P_p6.out.below hb)
    have P_r7 := Lib.hid (P_r6.out.below hb)
    have P_k7 := Lib.hid (P_k6.out.below hb)
    have P_m7 := Lib.hid (P_m6.out.below hb)
    have P_n7 := Lib.hid (P_n6.out.below hb)
    clear hb c_n c_p P_p6 P_r6 P_k6 P_m6 P_n6
    have HP := Lib.hid (fun W (hb : Below u7.heap.size u7 W) => And.intro (P_p7.out.below hb) (P_r7.out.below hb))
    have HR : Hid (∀ W, Below u7.heap.size u7 W → W.cell? ⟨g1, 0, none⟩ = some (.string (row0 (mkPic a b f)))) := fun W hb => (P_p7.out.below hb).sl.row 0 (by rw [mkPic_len]; omega)
    have hs0 : (row0 (mkPic a b f)).size = a := mkPic_row0 _ _ _ hB.1
    obtain ⟨s0, hs0e⟩ : ∃ s, row0 (mkPic a b f) = s := ⟨_, rfl⟩
    rw [hs0e] at HR hs0
    have HBe := B7
    have ks0 : (s0.size : Int) ≤ 16 := by omega
    have HS0 := Lib.hid hs0
    clear hs0e hback hagain CS CR CF CL CP P_p7 P_r7 P_k7 P_m7 P_n7 B7 HE HN R0
    go_wp2_with fail
    go_loopw [14] (fun iv wr => ∃ y : Nat, y ≤ b ∧ iv = .int .i64 (y : Int) ∧ Hid (Below u7.heap.size u7 wr)) (fun iv _ => b - (intOf iv).toNat)
    case atStart => exact ⟨0, Nat.zero_le _, rfl, Lib.hid (Below.refl _ _)⟩
    case round =>
      obtain ⟨y, hyb, rfl, HY⟩ := hrel
      have c_p := (HP.out _ HY.out).1.cell
      by_cases hlt : y < b
      · have ky : (y : Int) < (b : Int) := by omega
        go_wp2_with fail
        clear c_p
        go_loopw [15] (fun iv wr => ∃ x : Nat, x ≤ a ∧ iv = .int .i64 (x : Int) ∧ Hid (Below u7.heap.size u7 wr)) (fun iv _ => a - (intOf iv).toNat)
        case atStart => exact ⟨0, Nat.zero_le _, rfl, HY⟩
        case round =>
          clear HY
          obtain ⟨x, hxa, rfl, HX⟩ := hrel
          have c_p := (HP.out _ HX.out).1.cell
          have c_s := HR.out _ HX.out
          have k0 : (0 : Int) < (b : Int) := by omega
          by_cases hxl : x < a
          · have kx : (x : Int) < (s0.size : Int) := by rw [HS0.out]; omega
            have kw1 : IntKind.i64.wrap ((x : Int) - 1) = (x : Int) - 1 := IntWalk.i64_in _ (by omega)
            have kw2 : IntKind.i64.wrap ((y : Int) - 1) = (y : Int) - 1 := IntWalk.i64_in _ (by omega)
            have C1 := Lib.hid (fun W (hb : Below u7.heap.size u7 W) => CBk.out _ f (x : Int) (y : Int) W (HP.out W hb).1.sl)
            have C2 := Lib.hid (fun W (hb : Below u7.heap.size u7 W) => CBk.out _ f ((x : Int) - 1) (y : Int) W (HP.out W hb).1.sl)
            have C3 := Lib.hid (fun W (hb : Below u7.heap.size u7 W) => CBk.out _ f (x : Int) ((y : Int) - 1) W (HP.out W hb).1.sl)
            have C4 := Lib.hid (fun W (hb : Below u7.heap.size u7 W) => CBk.out _ f ((x : Int) - 1) ((y : Int) - 1) W (HP.out W hb).1.sl)
            have C5 := Lib.hid (fun W (hb : Below u7.heap.size u7 W) => CBk.out _ _ (x : Int) (y : Int) W (HP.out W hb).2.sl)
            have hQ : pixI (mkPic a b (rsF (mkPic a b f))) (x : Int) (y : Int) = ((pixI (mkPic a b f) (x : Int) (y : Int) != pixI (mkPic a b f) ((x : Int) - 1) (y : Int)) != (pixI (mkPic a b f) (x : Int) ((y : Int) - 1) != pixI (mkPic a b f) ((x : Int) - 1) ((y : Int) - 1))) := by
              rw [pixI_mk hxl hlt]; rfl
            obtain ⟨q1v, hq1⟩ : ∃ Z, pixI (mkPic a b f) (x : Int) (y : Int) = Z := ⟨_, rfl⟩
            obtain ⟨q2v, hq2⟩ : ∃ Z, pixI (mkPic a b f) ((x : Int) - 1) (y : Int) = Z := ⟨_, rfl⟩
            obtain ⟨q3v, hq3⟩ : ∃ Z, pixI (mkPic a b f) (x : Int) ((y : Int) - 1) = Z := ⟨_, rfl⟩
            obtain ⟨q4v, hq4⟩ : ∃ Z, pixI (mkPic a b f) ((x : Int) - 1) ((y : Int) - 1) = Z := ⟨_, rfl⟩
            obtain ⟨q5v, hq5⟩ : ∃ Z, pixI (mkPic a b (rsF (mkPic a b f))) (x : Int) (y : Int) = Z := ⟨_, rfl⟩
            rw [hq1, hq2, hq3, hq4, hq5] at hQ
            rw [hq1] at C1
            rw [hq2] at C2
            rw [hq3] at C3
            rw [hq4] at C4
            rw [hq5] at C5
            have kk : (q5v == (!((!((!(q1v == q2v)) == q3v)) == q4v))) = true := by
              rw [hQ]
              cases q1v <;> cases q2v <;> cases q3v <;> cases q4v <;> rfl
            have KK := Lib.hid kk
            clear hq1 hq2 hq3 hq4 hq5 hQ kk
            go_upto_region 16 with fail
            clear c_s c_p
            refine wp_region_inv_at (by kernel_rfl) (fun A0 L A W => ∃ (b0 b1 b2 b3 b4 b5 b6 b7 b8 b9 b10 : Bool) (v84 v85 v86 v87 v88 v89 v90 v91 v92 v93 v16 : Value), L = #[b0, b1, b2, b3, b4, b5, b6, b7, b8, b9, b10] ∧ A = (((((((((((A0.put (some 84) v84).put (some 85) v85).put (some 86) v86).put (some 87) v87).put (some 88) v88).put (some 89) v89).put (some 90) v90).put (some 91) v91).put (some 92) v92).put (some 93) v93).put (some 16) v16) ∧ (Below wr.heap.size wr W) ∧ Hid (b0 = true → v84 = .agg #[.slice (some ⟨g1, 0, none⟩) b cap1]) ∧ Hid (b1 = true → v85 = .int .i64 (x : Int)) ∧ Hid (b2 = true → v86 = .int .i64 (y : Int)) ∧ Hid (b3 = true → v87 = .bool q1v) ∧ Hid (b4 = true → v88 = .agg #[.slice (some ⟨g1, 0, none⟩) b cap1]) ∧ Hid (b5 = true → v89 = .int .i64 (x : Int)) ∧ Hid (b6 = true → v90 = .int .i64 ((x : Int) - 1)) ∧ Hid (b7 = true → v91 = .int .i64 (y : Int)) ∧ Hid (b8 = true → v92 = .bool q2v) ∧ Hid (b9 = true → v93 = .bool (!(q1v == q2v))) ∧ Hid (b10 = true → v16 = .bool (!(q1v == q2v)))) ?_ ?_ ?_
            · intro A0
              refine ⟨false, false, false, false, false, false, false, false, false, false, false, A0.tmps.getD 84 undef, A0.tmps.getD 85 undef, A0.tmps.getD 86 undef, A0.tmps.getD 87 undef, A0.tmps.getD 88 undef, A0.tmps.getD 89 undef, A0.tmps.getD 90 undef, A0.tmps.getD 91 undef, A0.tmps.getD 92 undef, A0.tmps.getD 93 undef, A0.tmps.getD 16 undef, rfl, (by simp only [put_self]), (Below.refl _ _).drew, Lib.hid (fun hf => by cases hf), Lib.hid (fun hf => by cases hf), Lib.hid (fun hf => by cases hf), Lib.hid (fun hf => by cases hf), Lib.hid (fun hf => by cases hf), Lib.hid (fun hf => by cases hf), Lib.hid (fun hf => by cases hf), Lib.hid (fun hf => by cases hf), Lib.hid (fun hf => by cases hf), Lib.hid (fun hf => by cases hf), Lib.hid (fun hf => by cases hf)⟩
            · intro L A W hI i hi o ho K' hK
              have hlt := (ready_left hi).1
              have hun := (ready_left hi).2
              have haf := ready_after hi ho
              clear hi
              obtain ⟨b0, b1, b2, b3, b4, b5, b6, b7, b8, b9, b10, v84, v85, v86, v87, v88, v89, v90, v91, v92, v93, v16, rfl, rfl, hB, h0, h1, h2, h3, h4, h5, h6, h7, h8, h9, h10⟩ := hI
              have hc : i = 0 ∨ i = 1 ∨ i = 2 ∨ i = 3 ∨ i = 4 ∨ i = 5 ∨ i = 6 ∨ i = 7 ∨ i = 8 ∨ i = 9 ∨ i = 10 := by
                simp at hlt
                omega
              have q0 := (HP.out W (HX.out.trans (hB.mono HX.out.size))).1.cell
              rcases hc with rfl | rfl | rfl | rfl | rfl | rfl | rfl | rfl | rfl | rfl | rfl
              all_goals (obtain rfl := Option.some.inj ho; clear ho; simp [Region.binds] at haf hun; (try simp only [List.getElem_toArray, List.getElem_cons_zero, List.getElem_cons_succ]); simp only [Act.put, List.setIfInBounds_toArray, List.set_cons_zero, List.set_cons_succ])
              · -- operation 0
                replace hK := Lib.hid hK
                subst hun
                go_simp
                exact hK.out _ _ ⟨true, b1, b2, b3, b4, b5, b6, b7, b8, b9, b10, .agg #[.slice (some ⟨g1, 0, none⟩) b cap1], v85, v86, v87, v88, v89, v90, v91, v92, v93, v16, rfl, (by simp only [Act.put, List.setIfInBounds_toArray, List.set_cons_zero, List.set_cons_succ]), hB, Lib.hid (fun _ => rfl), h1, h2, h3, h4, h5, h6, h7, h8, h9, h10⟩
              · -- operation 1
                replace hK := Lib.hid hK
                subst hun
                go_simp
                exact hK.out _ _ ⟨b0, true, b2, b3, b4, b5, b6, b7, b8, b9, b10, v84, .int .i64 (x : Int), v86, v87, v88, v89, v90, v91, v92, v93, v16, rfl, (by simp only [Act.put, List.setIfInBounds_toArray, List.set_cons_zero, List.set_cons_succ]), hB, h0, Lib.hid (fun _ => rfl), h2, h3, h4, h5, h6, h7, h8, h9, h10⟩
              · -- operation 2
                replace hK := Lib.hid hK
                subst hun
                go_simp
                exact hK.out _ _ ⟨b0, b1, true, b3, b4, b5, b6, b7, b8, b9, b10, v84, v85, .int .i64 (y : Int), v87, v88, v89, v90, v91, v92, v93, v16, rfl, (by simp only [Act.put, List.setIfInBounds_toArray, List.set_cons_zero, List.set_cons_succ]), hB, h0, h1, Lib.hid (fun _ => rfl), h3, h4, h5, h6, h7, h8, h9, h10⟩
              · -- operation 3
                replace hK := Lib.hid hK
                obtain rfl := (h0.out (by simp only [haf])).symm
                obtain rfl := (h1.out (by simp only [haf])).symm
                obtain rfl := (h2.out (by simp only [haf])).symm
                subst hun
                go_simp
                refine (C1.out W (HX.out.trans (hB.mono HX.out.size))).mono ?_
                rintro e W' ⟨rfl, hb⟩
                have hkept := fun kb (hk : kb < W.heap.size) => hb.block kb hk
                exact hK.out _ _ ⟨b0, b1, b2, true, b4, b5, b6, b7, b8, b9, b10, .agg #[.slice (some ⟨g1, 0, none⟩) b cap1], .int .i64 (x : Int), .int .i64 (y : Int), .bool q1v, v88, v89, v90, v91, v92, v93, v16, rfl, (by simp only [Act.put, List.setIfInBounds_toArray, List.set_cons_zero, List.set_cons_succ]), hB.trans (hb.mono hB.size), Lib.hid (fun _ => rfl), Lib.hid (fun _ => rfl), Lib.hid (fun _ => rfl), Lib.hid (fun _ => rfl), h4, h5, h6, h7, h8, h9, h10⟩
              · -- operation 4
                replace hK := Lib.hid hK
                subst hun
                go_simp
                exact hK.out _ _ ⟨b0, b1, b2, b3, true, b5, b6, b7, b8, b9, b10, v84, v85, v86, v87, .agg #[.slice (some ⟨g1, 0, none⟩) b cap1], v89, v90, v91, v92, v93, v16, rfl, (by simp only [Act.put, List.setIfInBounds_toArray, List.set_cons_zero, List.set_cons_succ]), hB, h0, h1, h2, h3, Lib.hid (fun _ => rfl), h5, h6, h7, h8, h9, h10⟩
              · -- operation 5
                replace hK := Lib.hid hK
                subst hun
                go_simp
                exact hK.out _ _ ⟨b0, b1, b2, b3, b4, true, b6, b7, b8, b9, b10, v84, v85, v86, v87, v88, .int .i64 (x : Int), v90, v91, v92, v93, v16, rfl, (by simp only [Act.put, List.setIfInBounds_toArray, List.set_cons_zero, List.set_cons_succ]), hB, h0, h1, h2, h3, h4, Lib.hid (fun _ => rfl), h6, h7, h8, h9, h10⟩
              · -- operation 6
                replace hK := Lib.hid hK
                obtain rfl := (h5.out (by simp only [haf])).symm
                subst hun
                go_simp
                exact hK.out _ _ ⟨b0, b1, b2, b3, b4, b5, true, b7, b8, b9, b10, v84, v85, v86, v87, v88, .int .i64 (x : Int), .int .i64 ((x : Int) - 1), v91, v92, v93, v16, rfl, (by simp only [Act.put, List.setIfInBounds_toArray, List.set_cons_zero, List.set_cons_succ]), hB, h0, h1, h2, h3, h4, Lib.hid (fun _ => rfl), Lib.hid (fun _ => rfl), h7, h8, h9, h10⟩
              · -- operation 7
                replace hK := Lib.hid hK
                subst hun
                go_simp
                exact hK.out _ _ ⟨b0, b1, b2, b3, b4, b5, b6, true, b8, b9, b10, v84, v85, v86, v87, v88, v89, v90, .int .i64 (y : Int), v92, v93, v16, rfl, (by simp only [Act.put, List.setIfInBounds_toArray, List.set_cons_zero, List.set_cons_succ]), hB, h0, h1, h2, h3, h4, h5, h6, Lib.hid (fun _ => rfl), h8, h9, h10⟩
              · -- operation 8
                replace hK := Lib.hid hK
                obtain rfl := (h4.out (by simp only [haf])).symm
                obtain rfl := (h6.out (by simp only [haf])).symm
                obtain rfl := (h7.out (by simp only [haf])).symm
                subst hun
                go_simp
                refine (C2.out W (HX.out.trans (hB.mono HX.out.size))).mono ?_
                rintro e W' ⟨rfl, hb⟩
                have hkept := fun kb (hk : kb < W.heap.size) => hb.block kb hk
                exact hK.out _ _ ⟨b0, b1, b2, b3, b4, b5, b6, b7, true, b9, b10, v84, v85, v86, v87, .agg #[.slice (some ⟨g1, 0, none⟩) b cap1], v89, .int .i64 ((x : Int) - 1), .int .i64 (y : Int), .bool q2v, v93, v16, rfl, (by simp only [Act.put, List.setIfInBounds_toArray, List.set_cons_zero, List.set_cons_succ]), hB.trans (hb.mono hB.size), h0, h1, h2, h3, Lib.hid (fun _ => rfl), h5, Lib.hid (fun _ => rfl), Lib.hid (fun _ => rfl), Lib.hid (fun _ => rfl), h9, h10⟩
              · -- operation 9
                replace hK := Lib.hid hK
                obtain rfl := (h3.out (by simp only [haf])).symm
                obtain rfl := (h8.out (by simp only [haf])).symm
                subst hun
                go_simp
                exact hK.out _ _ ⟨b0, b1, b2, b3, b4, b5, b6, b7, b8, true, b10, v84, v85, v86, .bool q1v, v88, v89, v90, v91, .bool q2v, .bool (!(q1v == q2v)), v16, rfl, (by simp only [Act.put, List.setIfInBounds_toArray, List.set_cons_zero, List.set_cons_succ]), hB, h0, h1, h2, Lib.hid (fun _ => rfl), h4, h5, h6, h7, Lib.hid (fun _ => rfl), Lib.hid (fun _ => rfl), h10⟩
              · -- operation 10
                replace hK := Lib.hid hK
                obtain rfl := (h9.out (by simp only [haf])).symm
                subst hun
                go_simp
                exact hK.out _ _ ⟨b0, b1, b2, b3, b4, b5, b6, b7, b8, b9, true, v84, v85, v86, v87, v88, v89, v90, v91, v92, .bool (!(q1v == q2v)), .bool (!(q1v == q2v)), rfl, (by simp only [Act.put, List.setIfInBounds_toArray, List.set_cons_zero, List.set_cons_succ]), hB, h0, h1, h2, h3, h4, h5, h6, h7, h8, Lib.hid (fun _ => rfl), Lib.hid (fun _ => rfl)⟩
            intro L A W hI hr
            obtain ⟨b0, b1, b2, b3, b4, b5, b6, b7, b8, b9, b10, v84, v85, v86, v87, v88, v89, v90, v91, v92, v93, v16, rfl, rfl, hB, h0, h1, h2, h3, h4, h5, h6, h7, h8, h9, h10⟩ := hI
            have d0 := ready_done hr 0 _ rfl (by simp [Region.binds])
            simp at d0
            subst d0
            have d1 := ready_done hr 1 _ rfl (by simp [Region.binds])
            simp at d1
            subst d1
            have d2 := ready_done hr 2 _ rfl (by simp [Region.binds])
            simp at d2
            subst d2
            have d3 := ready_done hr 3 _ rfl (by simp [Region.binds])
            simp at d3
            subst d3
            have d4 := ready_done hr 4 _ rfl (by simp [Region.binds])
            simp at d4
            subst d4
            have d5 := ready_done hr 5 _ rfl (by simp [Region.binds])
            simp at d5
            subst d5
            have d6 := ready_done hr 6 _ rfl (by simp [Region.binds])
            simp at d6
            subst d6
            have d7 := ready_done hr 7 _ rfl (by simp [Region.binds])
            simp at d7
            subst d7
            have d8 := ready_done hr 8 _ rfl (by simp [Region.binds])
            simp at d8
            subst d8
            have d9 := ready_done hr 9 _ rfl (by simp [Region.binds])
            simp at d9
            subst d9
            have d10 := ready_done hr 10 _ rfl (by simp [Region.binds])
            simp at d10
            subst d10
            obtain rfl := (h0.out rfl).symm
            obtain rfl := (h1.out rfl).symm
            obtain rfl := (h2.out rfl).symm
            obtain rfl := (h3.out rfl).symm
            obtain rfl := (h4.out rfl).symm
            obtain rfl := (h5.out rfl).symm
            obtain rfl := (h6.out rfl).symm
            obtain rfl := (h7.out rfl).symm
            obtain rfl := (h8.out rfl).symm
            obtain rfl := (h9.out rfl).symm
            obtain rfl := (h10.out rfl).symm
            simp only [Act.put, List.setIfInBounds_toArray, List.set_cons_zero, List.set_cons_succ]
            clear hr h0 h1 h2 h3 h4 h5 h6 h7 h8 h9 h10
            have HX2 := Lib.hid (HX.out.trans (hB.mono HX.out.size))
            have c_p := (HP.out _ HX2.out).1.cell
            clear hB HX C1 C2
            go_wp2_with fail
            refine (C3.out _ HX2.out).mono ?_
            rintro e wa ⟨rfl, hb⟩
            have HA := Lib.hid (HX2.out.trans (hb.mono HX2.out.size))
            clear hb c_p C3 HX2
            have c_p := (HP.out _ HA.out).1.cell
            go_wp2_with fail
            refine (C4.out _ HA.out).mono ?_
            rintro e wb ⟨rfl, hb⟩
            have HBb := Lib.hid (HA.out.trans (hb.mono HA.out.size))
            clear hb c_p C4 HA
            have c_r := (HP.out _ HBb.out).2.cell
            go_wp2_with fail
            refine (C5.out _ HBb.out).mono ?_
            rintro e wc ⟨rfl, hb⟩
            have HC := Lib.hid (HBb.out.trans (hb.mono HBb.out.size))
            have kk := KK.out
            clear hb c_r C5 HBb
            go_wp2_with fail
            go_roundw
            case rel => exact ⟨x + 1, by omega, by go_num, HC⟩
            case measure => simp [intOf]; omega
          · have hxe : x = a := by omega
            have kx : ¬ (x : Int) < (s0.size : Int) := by rw [HS0.out]; omega
            clear hxe
            go_wp2_with fail
            go_roundw
            case rel => exact ⟨y + 1, by omega, by go_num, HX⟩
            case measure => simp [intOf]; omega
      · have ky : ¬ (y : Int) < (b : Int) := by omega
        go_wp2_with fail
        go_ret
        exact ⟨rfl, HBe.out.trans (HY.out.mono HBe.out.size)⟩
end Go.Proofs.YtnmnlbgialolhaaDoor
