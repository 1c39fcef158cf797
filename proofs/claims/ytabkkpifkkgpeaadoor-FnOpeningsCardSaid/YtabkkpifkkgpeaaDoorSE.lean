/- Contracts of single functions, and plain lemmas, on which the exact laws of this seat rest; each holds under the conditions that it states. -/
import Derived.Test.YtabkkpifkkgpeaaDoorPb
import Derived.Test.YtabkkpifkkgpeaaDoorSD
import Derived.Test.YtabkkpifkkgpeaaDoorSp
namespace Go.Proofs.YtabkkpifkkgpeaaDoor
set_option linter.unusedVariables false
set_option linter.unusedSimpArgs false
open Go.RowKit

/-! ### a picture that is made of a function -/
theorem rowOf_size (f : Nat → Bool) (n : Nat) : (rowOf f n).size = n := by simp [rowOf, ByteArray.size, mkRow]
theorem rowOf_get (f : Nat → Bool) (n x : Nat) (h : x < (rowOf f n).size) : (rowOf f n)[x]'h = if f x = true then 35 else 46 := by
  have hx : x < n := by rwa [rowOf_size] at h
  have : (rowOf f n)[x]'h = (mkRow f n)[x]'(by rw [mkRow_len]; exact hx) := by
    simp [rowOf, ByteArray.getElem_eq_getElem_data]
  rw [this]
  simp [mkRow]
theorem mkPic_getD (wd h : Nat) (f : Nat → Nat → Bool) {y : Nat} (hy : y < h) : (mkPic wd h f).getD y ByteArray.empty = rowOf (f y) wd := by
  simp [mkPic, List.getD, hy]
theorem mkPic_row0 (wd h : Nat) (f : Nat → Nat → Bool) (hh : 1 ≤ h) : (row0 (mkPic wd h f)).size = wd := by
  show ((mkPic wd h f).getD 0 ByteArray.empty).size = wd
  rw [mkPic_getD wd h f (by omega), rowOf_size]
theorem mkPic_pix (wd h : Nat) (f : Nat → Nat → Bool) {y x : Nat} (hy : y < h) (hx : x < wd) : pixF (mkPic wd h f) y x = f y x := by
  unfold pixF
  rw [mkPic_getD wd h f hy, blackAt_eq _ _ (by rw [rowOf_size]; exact hx), rowOf_get]
  cases f y x <;> rfl
theorem mkPic_valid (wd h : Nat) (f : Nat → Nat → Bool) (hw : 1 ≤ wd ∧ wd ≤ 16) (hh : 1 ≤ h ∧ h ≤ 16) : validB (mkPic wd h f) = true := by
  unfold validB
  simp only [Bool.and_eq_true, decide_eq_true_eq, mkPic_len, mkPic_row0 wd h f hh.1]
  refine ⟨⟨⟨⟨hh.1, hh.2⟩, hw.1⟩, hw.2⟩, ?_⟩
  rw [List.all_eq_true]
  intro s hs
  obtain ⟨y, hy, rfl⟩ := List.mem_iff_getElem.1 hs
  rw [mkPic_len] at hy
  have e : (mkPic wd h f)[y] = rowOf (f y) wd := by simp [mkPic]
  rw [e]
  unfold rowB
  simp only [Bool.and_eq_true, decide_eq_true_eq]
  refine ⟨rowOf_size _ _, ?_⟩
  rw [List.all_eq_true]
  intro c hc
  have hc' : c ∈ mkRow (f y) wd := by simpa [rowOf] using hc
  obtain ⟨x, hx, rfl⟩ := List.mem_iff_getElem.1 hc'
  simp only [mkRow, List.getElem_map, List.getElem_range]
  cases f y x <;> decide
end Go.Proofs.YtabkkpifkkgpeaaDoor

/- Contracts of single functions, and plain lemmas, on which the exact laws of this seat rest; each holds under the conditions that it states. -/
namespace Go.Proofs.YtabkkpifkkgpeaaDoor
set_option linter.unusedVariables false
set_option linter.unusedSimpArgs false
open Go.RowKit
attribute [local go_sem] Oper.semAt_some

/-- a fresh picture of some size that was drawn -/
def SomePic (a b : Nat) (w : World) (e : Ending) (w' : World) : Prop :=
  ∃ (f : Nat → Nat → Bool) (g cap : Nat), e = .returned (.agg #[.slice (some ⟨g, 0, none⟩) b cap]) ∧ OwnP w' w.heap.size (.slice (some ⟨g, 0, none⟩) b cap) (mkPic a b f) ∧ Below w.heap.size w w'

set_option maxHeartbeats 1000000 in
set_option maxRecDepth 100000 in
theorem B10Picture_any (v : Value) (ns : List Nat) (w : World) (hv : SlY w v ns) (hby : ∀ i, ns.getD i 0 < 256) (hN : ns.length ≤ maxLen) :
    Calls Tryd.prog 20 #[v] w (fun e w' => ∃ a b, (1 ≤ a ∧ a ≤ 7) ∧ (1 ≤ b ∧ b ≤ 7) ∧ SomePic a b w e w') := by
  have hbA := Joins.below_alloc1 w (.cells #[.slice none 0 0] 42)
  have hpA := heap_alloc_last w (.cells #[.slice none 0 0] 42)
  obtain ⟨W0, hW0⟩ : ∃ W0, w.alloc (.cells #[.slice none 0 0] 42) = W0 := ⟨_, rfl⟩
  have hs0 : W0.heap.size = w.heap.size + 1 := by rw [← hW0]; simp
  rw [hW0] at hbA hpA
  have CF := Lib.hid (from_any v ns W0 (hv.below hbA) hby hN)
  have HW := Lib.hid hW0
  obtain ⟨ao, cap0, rfl⟩ := hv.form
  clear hv hW0 hby
  go_enter Tryd.func20, Tryd.ntmps20
  go_wp2_with fail
  rw [HW.out]
  refine CF.out.mono ?_
  rintro e wB ⟨rfl, hS, hb⟩
  have hpB : wB.heap[w.heap.size]? = some (.cells #[.slice none 0 0] 42 (0, 0)) := (hb.block _ (by omega)).trans hpA
  have hbB := hbA.trans (hb.mono (by omega))
  obtain ⟨p, hp⟩ : ∃ p, W0.heap.size = p := ⟨_, rfl⟩
  rw [hp] at hS ⊢
  have hpw : w.heap.size < p := by omega
  have HS := Lib.hid hS
  have HPB := Lib.hid hpB
  have HBB := Lib.hid hbB
  clear hS hb hpA hbA hs0 hp CF hpB hbB
  go_wp2_with fail
  refine (pick_any p _ ns 0 7 wB HS.out (by omega) (by omega)).mono ?_
  rintro e wC ⟨⟨r, hr, rfl⟩, hd⟩
  have HDC := Lib.hid hd
  clear hd
  go_wp2_with fail
  refine (pick_any p _ ns (0 + 1) 7 wC HDC.out.1 (by omega) (by omega)).mono ?_
  rintro e wD ⟨⟨q, hq, rfl⟩, hd⟩
  have HDD := Lib.hid hd
  clear hd
  have HDr := Lib.hid (l01Draw_any (r + 1) (q + 1) p (.slice ao ns.length cap0) ns (0 + 1 + 1) wD HDD.out.1 (by omega) (by omega) (by omega))
  rw [show ((r + 1 : Nat) : Int) = (1 : Int) + (r : Int) from by omega, show ((q + 1 : Nat) : Int) = (1 : Int) + (q : Int) from by omega] at HDr
  go_wp2_with fail
  refine HDr.out.mono ?_
  rintro e wE ⟨f, g, cap, rfl, hown, hsE, hfE⟩
  have hl1 := HDC.out.2.size
  have hl2 := HDD.out.2.size
  have hl3 := HBB.out.size
  have hp1 := HDC.out.2.cells HPB.out (Or.inl hpw)
  have hp2 := HDD.out.2.cells hp1 (Or.inl hpw)
  have hp3 := hfE.cells hp2 (Or.inl hpw)
  have hfr := free_of_one hp3
  have hcE := cell_of_one hp3
  have HB := Lib.hid (((hfE.bel (HDD.out.2.bel (HDC.out.2.bel HBB.out (Or.inl (by omega)) (Nat.le_refl _)) (Or.inl (by omega)) (Nat.le_refl _)) (Or.inl (by omega)) (Nat.le_refl _))).setCell (p := ⟨w.heap.size, 0, none⟩) (Nat.le_refl _) (.slice (some ⟨g, 0, none⟩) (q + 1) cap))
  have HO := Lib.hid (Joins.ownsRow_le (own_set (u := .slice (some ⟨g, 0, none⟩) (q + 1) cap) hown hp3 (by decide)) (show w.heap.size ≤ wD.heap.size by omega))
  have HPo : Hid ((wE.setCell ⟨w.heap.size, 0, none⟩ (.slice (some ⟨g, 0, none⟩) (q + 1) cap)).cell? ⟨w.heap.size, 0, none⟩ = some (.slice (some ⟨g, 0, none⟩) (q + 1) cap)) := cell_of_one (one_setCell hp3)
  clear hown hsE hfE hp1 hp2 hp3
  go_wp2_with fail
  exact bodyPost_ret (v := .agg #[.slice (some ⟨g, 0, none⟩) (q + 1) cap]) (by simp [results, Tryd.results20, go_sem, HPo.out]) rfl ⟨r + 1, q + 1, by omega, by omega, f, g, cap, rfl, HO.out, HB.out⟩

set_option maxHeartbeats 1000000 in
set_option maxRecDepth 100000 in
theorem B10Like_any (v u : Value) (ns : List Nat) (ss : List ByteArray) (w : World) (hv : SlY w v ns) (hby : ∀ i, ns.getD i 0 < 256) (hN : ns.length ≤ maxLen) (hu : Sl w u ss) (hok : validB ss = true) :
    Calls Tryd.prog 28 #[v, .agg #[u]] w (SomePic (row0 ss).size ss.length w) := by
  have V := vp_of hok
  obtain ⟨W0, hW0⟩ : ∃ W0, (w.alloc (.cells #[u] 42)).alloc (.cells #[.slice none 0 0] 42) = W0 := ⟨_, rfl⟩
  have hbA : Below w.heap.size w W0 := by rw [← hW0]; exact Joins.below_alloc2 w _ _
  have hpA : W0.heap[w.heap.size + 1]? = some (.cells #[.slice none 0 0] 42 (0, 0)) := by rw [← hW0]; exact heap_alloc2_new _ _ _
  have hqA : W0.heap[w.heap.size]? = some (.cells #[u] 42 (0, 0)) := by
    rw [← hW0, Below.heap_alloc _ _ _ (by simp)]; exact heap_alloc_last w _
  have hs0 : W0.heap.size = w.heap.size + 1 + 1 := by rw [← hW0]; simp
  have HPic : Hid (∀ W, Below W0.heap.size W0 W → PicAt W w.heap.size 0 ss) := fun W hb => ⟨hok, u, cell_of_one ((hb.block _ (by omega)).trans hqA), (hu.below hbA).below hb⟩
  have CF := Lib.hid (from_any v ns W0 (hv.below hbA) hby hN)
  have HW := Lib.hid hW0
  obtain ⟨ao, cap0, rfl⟩ := hv.form
  have h1 := V.w1
  have h2 := V.w16
  have h3 := V.n1
  have h4 := V.n16
  obtain ⟨a, ha⟩ : ∃ a, (row0 ss).size = a := ⟨_, rfl⟩
  obtain ⟨b, hb'⟩ : ∃ a, ss.length = a := ⟨_, rfl⟩
  rw [ha] at h1 h2 ⊢
  rw [hb'] at h3 h4 ⊢
  have HAe := Lib.hid ha
  have HBe := Lib.hid hb'
  clear ha hb'
  clear hv hW0 hby hu hqA
  go_enter Tryd.func28, Tryd.ntmps28
  go_wp2_with fail
  rw [HW.out]
  refine CF.out.mono ?_
  rintro e wB ⟨rfl, hS, hb⟩
  have hpB : wB.heap[w.heap.size + 1]? = some (.cells #[.slice none 0 0] 42 (0, 0)) := (hb.block _ (by omega)).trans hpA
  have hbB := hbA.trans (hb.mono (by omega))
  have HC1 := Lib.hid (l01Width_any w.heap.size 0 ss wB (HPic.out _ hb))
  have HC2 := Lib.hid (l01Height_any w.heap.size 0 ss wB (HPic.out _ hb))
  obtain ⟨p, hp⟩ : ∃ p, W0.heap.size = p := ⟨_, rfl⟩
  rw [hp] at hS ⊢
  have hpw : w.heap.size + 1 < p := by omega
  have HPB := Lib.hid hpB
  have HBB := Lib.hid hbB
  rw [HAe.out] at HC1
  rw [HBe.out] at HC2
  have HDr := Lib.hid (l01Draw_any a b p (.slice ao ns.length cap0) ns 0 wB hS (by omega) (by omega) (by omega))
  have hl := hbB.size
  clear hS hb hpA hbA hs0 hp CF hpB hbB HPic V hok
  go_wp2_with fail
  refine HC1.out.mono ?_
  rintro e w' ⟨rfl, rfl⟩
  go_wp2_with fail
  refine HC2.out.mono ?_
  rintro e w' ⟨rfl, rfl⟩
  go_wp2_with fail
  refine HDr.out.mono ?_
  rintro e wE ⟨f, g, cap, rfl, hown, hsE, hfE⟩
  have hp3 := hfE.cells HPB.out (Or.inl hpw)
  have hfr := free_of_one hp3
  have hcE := cell_of_one hp3
  have HB := Lib.hid ((hfE.bel HBB.out (Or.inl (by omega)) (Nat.le_refl _)).setCell (p := ⟨w.heap.size + 1, 0, none⟩) (by simp) (.slice (some ⟨g, 0, none⟩) b cap))
  have HO := Lib.hid (Joins.ownsRow_le (own_set (u := .slice (some ⟨g, 0, none⟩) b cap) hown hp3 (by decide)) hl)
  have HPo : Hid ((wE.setCell ⟨w.heap.size + 1, 0, none⟩ (.slice (some ⟨g, 0, none⟩) b cap)).cell? ⟨w.heap.size + 1, 0, none⟩ = some (.slice (some ⟨g, 0, none⟩) b cap)) := cell_of_one (one_setCell hp3)
  clear hown hsE hfE hp3 HDr HC1 HC2
  go_wp2_with fail
  exact bodyPost_ret (v := .agg #[.slice (some ⟨g, 0, none⟩) b cap]) (by simp [results, Tryd.results28, go_sem, HPo.out]) rfl ⟨f, g, cap, rfl, HO.out, HB.out⟩
end Go.Proofs.YtabkkpifkkgpeaaDoor
