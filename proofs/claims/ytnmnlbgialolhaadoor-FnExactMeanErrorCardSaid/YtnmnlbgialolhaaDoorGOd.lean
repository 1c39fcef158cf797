/- Contracts of single functions, and plain lemmas, on which the exact laws of this seat rest; each holds under the conditions that it states. -/
import Derived.Test.YtnmnlbgialolhaaDoorGOb
import Derived.Test.YtnmnlbgialolhaaDoorGOc
import Derived.Test.YtnmnlbgialolhaaDoorI2
import Derived.Test.YtnmnlbgialolhaaDoorR3
namespace Go.Proofs.YtnmnlbgialolhaaDoor
set_option linter.unusedVariables false
set_option linter.unusedSimpArgs false
open Go.RowKit
attribute [local go_sem] Oper.semAt_some

theorem gyG_words {ss : List ByteArray} (V : VP ss) : gyG (row0 ss).size ss.length (wordsOf ss) = gyF ss := by
  funext y x
  unfold gyG gyF
  rw [words_bit V]
theorem greysOf_pic {ss : List ByteArray} (hok : validB ss = true) (w : World) : Calls Tryd.prog 54 #[.agg (matC ss)] w (TookR w ss.length (rwF (gyF ss) (row0 ss).size)) := by
  have V := vp_of hok
  have := greysOf_any (matC ss) (row0 ss).size ss.length (wordsOf ss) w (matC_yes hok) V.w1 V.w16 V.n1 V.n16 (words_lt V)
  rwa [gyG_words V] at this
theorem call_GreyOf1 (args : Array Value) (W : World) : (callFunc 53 args).run Tryd.prog W = .ok (.enter 53 args) W := by simp [go_sem]

set_option maxHeartbeats 2000000 in
set_option maxRecDepth 100000 in
theorem workGreyOf_yes (pb : Nat) (v : Value) (ss : List ByteArray) (w : World) (hN : ss.length ≤ maxLen) (hz : ∀ s ∈ ss, s.size ≤ maxLen) (hv : Sl w v ss) (he : ErrLen w) (hc : w.cell? ⟨pb, 0, none⟩ = some v) (hok : validB ss = true) :
    Calls Tryd.prog 53 #[.pointer (some ⟨pb, 0, none⟩)] w (TookGy w ss.length (rwF (gyF ss) (row0 ss).size)) := by
  have hb0 := Joins.below_alloc1 w (.cells #[.slice none 0 0] 35)
  have hr0 := heap_alloc_last w (.cells #[.slice none 0 0] 35)
  obtain ⟨W0, hW0⟩ : ∃ W0, w.alloc (.cells #[.slice none 0 0] 35) = W0 := ⟨_, rfl⟩
  rw [hW0] at hb0 hr0
  have HW0 := Lib.hid hW0
  have HB0 := Lib.hid hb0
  have hs0 : W0.heap.size = w.heap.size + 1 := by rw [← hW0]; simp
  have c1 := cell_kept hb0 hc
  have KR : Hid (∀ W, Below W0.heap.size W0 W → W.heap[w.heap.size]? = some (.cells #[.slice none 0 0] 35 (0, 0))) := fun W hb => (hb.block _ (Array.getElem?_eq_some_iff.1 hr0).1).trans hr0
  have CM := Lib.hid (reqMat_yes v ss W0 hN hz (hv.below hb0) (he.below hb0) hok)
  have CR : Hid (∀ W, Calls Tryd.prog 54 #[.agg (matC ss)] W (TookR W ss.length (rwF (gyF ss) (row0 ss).size))) := fun W => greysOf_pic hok W
  unfold TookR at CR
  obtain ⟨C, hC⟩ : ∃ C, matC ss = C := ⟨_, rfl⟩
  rw [hC] at CM CR
  obtain ⟨n, hn⟩ : ∃ n, ss.length = n := ⟨_, rfl⟩
  rw [hn] at CR ⊢
  have HS0 := Lib.hid hs0
  unfold TookGy
  clear hb0 hr0 hW0 hv he hN hz hc hok hC hs0 hn
  go_enter Tryd.func53, Tryd.ntmps53
  go_upto_region 1 with fail
  rw [HW0.out]
  go_wp2_with fail
  refine CM.out.mono ?_
  rintro e w1 ⟨rfl, hb1⟩
  have B1 := Lib.hid hb1
  clear hb1 c1
  go_wp2_with fail
  refine (CR.out _).mono ?_
  rintro e w7 ⟨g7, cap7, rfl, ⟨us, hown7⟩, hb7⟩
  have B3 := B1.out.trans (hb7.mono B1.out.size)
  have hp7 := KR.out _ B3
  have hfr : w7.frozen? ⟨w.heap.size, 0, none⟩ = false := free_of_one hp7
  have hc2 : w7.cell? ⟨w.heap.size, 0, none⟩ = some (.slice none 0 0) := cell_of_one hp7
  have hle : w.heap.size < w1.heap.size := by have := HS0.out; have := B1.out.size; omega
  have O7 := Lib.hid ((hown7.set w.heap.size (.slice (some ⟨g7, 0, none⟩) n cap7) hle).mono (Nat.le_of_lt hle) (Nat.le_refl _))
  have P7 := Lib.hid (one_setCell (u := .slice (some ⟨g7, 0, none⟩) n cap7) hp7)
  have B7 := Lib.hid (HB0.out.trans (B3.mono HB0.out.size))
  clear hown7 hb7 hp7 B3
  go_wp2_with fail
  exact bodyPost_ret (results_cell1 (p := 1) (ty := 35) Tryd.results53 _ _ w.heap.size 35 #[.slice (some ⟨g7, 0, none⟩) n cap7] (0, 0) _ rfl P7.out Tryd.underlying35 rfl (by kernel_rfl)) rfl ⟨g7, cap7, rfl, ⟨us, O7.out.mono (Nat.le_refl _) (by simp)⟩, B7.out.setCell (p := ⟨w.heap.size, 0, none⟩) (Nat.le_refl _) _⟩

set_option maxHeartbeats 2000000 in
set_option maxRecDepth 100000 in
theorem workGreyOf_no (pb : Nat) (v : Value) (ss : List ByteArray) (w : World) (hN : ss.length ≤ maxLen) (hz : ∀ s ∈ ss, s.size ≤ maxLen) (hv : Sl w v ss) (he : ErrLen w) (hn : NoRes w) (hc : w.cell? ⟨pb, 0, none⟩ = some v) (hok : validB ss = false) :
    Calls Tryd.prog 53 #[.pointer (some ⟨pb, 0, none⟩)] w (fun e w' => (∃ T x, e = .panicked [{ v := .iface T x, recovered := false }]) ∧ Below w.heap.size w w') := by
  have hb0 := Joins.below_alloc1 w (.cells #[.slice none 0 0] 35)
  obtain ⟨W0, hW0⟩ : ∃ W0, w.alloc (.cells #[.slice none 0 0] 35) = W0 := ⟨_, rfl⟩
  rw [hW0] at hb0
  have HW0 := Lib.hid hW0
  have HB0 := Lib.hid hb0
  have c1 := cell_kept hb0 hc
  have CM := Lib.hid (reqMat_no v ss W0 hN hz (hv.below hb0) (he.below hb0) (hn.below hb0) hok)
  clear hb0 hW0 hv he hN hz hc hok hn
  go_enter Tryd.func53, Tryd.ntmps53
  go_upto_region 1 with fail
  rw [HW0.out]
  go_wp2_with fail
  refine CM.out.mono ?_
  rintro e w1 ⟨⟨T, x, rfl⟩, hb1⟩
  have B1 := Lib.hid (HB0.out.trans (hb1.mono HB0.out.size))
  clear hb1 c1
  go_wp2_with fail
  exact ⟨rfl, ⟨T, x, rfl⟩, B1.out⟩

set_option maxHeartbeats 2000000 in
set_option maxRecDepth 100000 in
theorem impl_GreyOf (v : Value) (ss : List ByteArray) (w : World) (hN : ss.length ≤ maxLen) (hz : ∀ s ∈ ss, s.size ≤ maxLen) (hv : Sl w v ss) (he : ErrLen w) (hr : NoRes w) :
    Calls Tryd.prog 20 #[.agg #[v]] w (SaysGrey (gyP ss) (validB ss) w) := by
  have hmf : ∀ (fn : Fn) (first cap : Array Value) (w : World), (Instr.makeFunc fn first cap).run Tryd.prog w = .ok (.func fn first cap) w := fun _ _ _ _ => rfl
  obtain ⟨W0, hW0⟩ : ∃ W0, (w.alloc (.cells #[v] 26)).alloc (.cells #[.slice none 0 0] 35) = W0 := ⟨_, rfl⟩
  have hs0 : W0.heap.size = w.heap.size + 1 + 1 := by rw [← hW0]; simp
  have hb0 : Below w.heap.size w W0 := by rw [← hW0]; exact Joins.below_alloc2 _ _ _
  have p0 : W0.heap[w.heap.size]? = some (.cells #[v] 26 (0, 0)) := by
    rw [← hW0, Below.heap_alloc _ _ _ (by first | (simp; done) | (simp; omega))]; exact heap_alloc_last w _
  have p2 : W0.heap[w.heap.size + 1]? = some (.cells #[.slice none 0 0] 35 (0, 0)) := by
    rw [← hW0]
    exact heap_alloc2_new _ _ _
  have HW := Lib.hid hW0
  have HB0 := Lib.hid hb0
  have KR : Hid (∀ W, Below W0.heap.size W0 W → W.heap[w.heap.size + 1]? = some (.cells #[.slice none 0 0] 35 (0, 0))) := fun W hb => (hb.block _ (by omega)).trans p2
  cases hok : validB ss with
  | false =>
    have e1 : Hid (gyP ss = []) := by show _ = _; unfold gyP; rw [hok]; rfl
    have C := Lib.hid (attemptGr_no 53 #[.pointer (some ⟨w.heap.size, 0, none⟩)] W0 call_GreyOf1 (fun W hb => workGreyOf_no w.heap.size v ss W hN hz ((hv.below hb0).below hb) ((he.below hb0).below hb) ((hr.below hb0).below hb) (cell_kept hb (cell_of_one p0)) hok))
    rw [e1.out]
    clear hv hr he hok e1 p0 p2 hb0 hW0 hs0 hN hz
    go_enter Tryd.func20, Tryd.ntmps20
    go_upto_region 1 with fail
    rw [HW.out]
    go_wp2_with fail
    refine C.out.mono ?_
    rintro e w1 ⟨rfl, hb1⟩
    have hp1 := KR.out _ hb1
    have hfr : w1.frozen? ⟨w.heap.size + 1, 0, none⟩ = false := free_of_one hp1
    have hc2 : w1.cell? ⟨w.heap.size + 1, 0, none⟩ = some (.slice none 0 0) := cell_of_one hp1
    have B1 : Hid (Below w.heap.size w w1) := HB0.out.trans (hb1.mono HB0.out.size)
    have P1 := Lib.hid hp1
    clear hb1 hp1
    go_wp2_with fail
    refine bodyPost_ret (v := .tuple #[.agg #[.slice none 0 0], .bool false]) (by simp [results, Tryd.results20, go_sem, cell_of_one (one_setCell P1.out)]) rfl ⟨_, _, _, rfl, ⟨fun _ => .slice none 0 0, OwnR.nil _ _ _ _ _⟩, B1.out.setCell (by show w.heap.size ≤ w.heap.size + 1; omega) _⟩
  | true =>
    have e1 : Hid (gyP ss = gyGs ss) := by show _ = _; unfold gyP; rw [hok]; rfl
    have hle0 := hb0.size
    have C := Lib.hid (attemptGr_yes 53 #[.pointer (some ⟨w.heap.size, 0, none⟩)] W0 (fun u W w' => Below W0.heap.size W0 W → ∃ g c, u = .agg #[.slice (some ⟨g, 0, none⟩) ss.length c] ∧ ∃ us, OwnR w' W.heap.size w'.heap.size (.slice (some ⟨g, 0, none⟩) ss.length c) us ss.length (rwF (gyF ss) (row0 ss).size)) call_GreyOf1 (fun W hb => (workGreyOf_yes w.heap.size v ss W hN hz ((hv.below hb0).below hb) ((he.below hb0).below hb) (cell_kept hb (cell_of_one p0)) hok).mono fun e w' ⟨g, c, h1, h2, h3⟩ => ⟨_, _, _, h1, fun _ => ⟨g, c, rfl, h2⟩, h3⟩))
    rw [e1.out]
    have HGl := Lib.hid (gyGs_len ss)
    have HGr := Lib.hid (fun y h => gyGs_row ss y h)
    obtain ⟨n, hn⟩ : ∃ n, ss.length = n := ⟨_, rfl⟩
    obtain ⟨G, hG⟩ : ∃ G, gyGs ss = G := ⟨_, rfl⟩
    rw [hG] at HGl HGr ⊢
    rw [hn] at HGl HGr C
    clear hv hr he hok e1 p0 p2 hb0 hW0 hN hz hn hG
    go_enter Tryd.func20, Tryd.ntmps20
    go_upto_region 1 with fail
    rw [HW.out]
    go_wp2_with fail
    refine C.out.mono ?_
    rintro e w9 ⟨a5, n5, c5, w1, rfl, hQ, hb1, rfl, hr1, hr2⟩
    obtain ⟨g, c, hu, us, hown⟩ := hQ (Joins.below_alloc2 _ _ _)
    injection hu with hu
    have hu2 : Value.slice a5 n5 c5 = .slice (some ⟨g, 0, none⟩) n c := by
      have := congrArg (fun a : Array Value => a[0]?) hu
      simpa using this
    injection hu2 with h1 h2 h3
    subst h1 h2 h3
    have hsz : ((W0.alloc (.cells #[.slice none 0 0] 35)).alloc (.cells #[.bool false] 4)).heap.size = W0.heap.size + 2 := by simp
    rw [hsz] at hown
    have o1 := hown.set W0.heap.size (.slice (some ⟨g, 0, none⟩) n5 c5) (by omega)
    have o2 := o1.set (W0.heap.size + 1) (.bool true) (by omega)
    have hbe : Below W0.heap.size W0 ((w1.setCell ⟨W0.heap.size, 0, none⟩ (.slice (some ⟨g, 0, none⟩) n5 c5)).setCell ⟨W0.heap.size + 1, 0, none⟩ (.bool true)) := (hb1.setCell (by simp) _).setCell (by simp) _
    have hz9 : ((w1.setCell ⟨W0.heap.size, 0, none⟩ (.slice (some ⟨g, 0, none⟩) n5 c5)).setCell ⟨W0.heap.size + 1, 0, none⟩ (.bool true)).heap.size = w1.heap.size := by simp
    obtain ⟨W9, hW9⟩ : ∃ W9, ((w1.setCell ⟨W0.heap.size, 0, none⟩ (.slice (some ⟨g, 0, none⟩) n5 c5)).setCell ⟨W0.heap.size + 1, 0, none⟩ (.bool true)) = W9 := ⟨_, rfl⟩
    rw [hW9] at hbe o2 hz9 ⊢
    have hp1 := KR.out _ hbe
    have hfr : W9.frozen? ⟨w.heap.size + 1, 0, none⟩ = false := free_of_one hp1
    have hc2 : W9.cell? ⟨w.heap.size + 1, 0, none⟩ = some (.slice none 0 0) := cell_of_one hp1
    have O2 : Hid (OwnG (W9.setCell ⟨w.heap.size + 1, 0, none⟩ (.slice (some ⟨g, 0, none⟩) n5 c5)) w.heap.size (W9.setCell ⟨w.heap.size + 1, 0, none⟩ (.slice (some ⟨g, 0, none⟩) n5 c5)).heap.size (.slice (some ⟨g, 0, none⟩) n5 c5) G) := by
      refine ⟨us, ?_⟩
      rw [HGl.out]
      exact ((o2.set (w.heap.size + 1) _ (by omega)).mono (by omega) (by simp [hz9])).congr fun i hi => (HGr.out i hi).symm
    have P5 := Lib.hid hp1
    have B5 := Lib.hid (HB0.out.trans (hbe.mono HB0.out.size))
    clear hQ hb1 hr1 hr2 hown hu o1 o2 hbe hW9 hp1 hz9 hsz
    go_wp2_with fail
    refine bodyPost_ret (v := .tuple #[.agg #[.slice (some ⟨g, 0, none⟩) n5 c5], .bool true]) (by simp [results, Tryd.results20, go_sem, cell_of_one (one_setCell P5.out)]) rfl ⟨_, _, _, rfl, O2.out, B5.out.setCell (by show w.heap.size ≤ w.heap.size + 1; omega) _⟩
end Go.Proofs.YtnmnlbgialolhaaDoor
