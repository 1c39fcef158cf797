/- Contracts of single functions, and plain lemmas, on which the exact laws of this seat rest; each holds under the conditions that it states. -/
import Derived.Test.YtelakopkpmkdcaaAn
import Derived.Test.YtelakopkpmkdcaaQh
import Derived.Deep.RegionHeld3
namespace Go.Proofs.Ytelakopkpmkdcaa
set_option linter.unusedVariables false
set_option linter.unusedSimpArgs false
open Go.RowKit

/-- a copy of an element -/
def TookEl (w : World) (xs : List (Int × Int)) (e : Ending) (w' : World) : Prop := ∃ g cap, e = .returned (.agg #[.slice (some ⟨g, 0, none⟩) xs.length cap]) ∧ OwnS w' w.heap.size (.slice (some ⟨g, 0, none⟩) xs.length cap) xs ∧ Below w.heap.size w w'

theorem toElement_any (v : Value) (xs : List (Int × Int)) (w : World) (hN : xs.length ≤ 1048576) (hv : SlA w v xs) :
    Calls Try.prog 18 #[.agg #[v]] w (TookEl w xs) := by
  have HB0 := Lib.hid (Joins.below_alloc3 w (.cells #[v] 32) (.cells #[.slice none 0 0] 24) (.cells #[.slice none 0 0] 24))
  have h3 := heap_alloc_last ((w.alloc (.cells #[v] 32)).alloc (.cells #[.slice none 0 0] 24)) (.cells #[.slice none 0 0] 24)
  have h2 : (((w.alloc (.cells #[v] 32)).alloc (.cells #[.slice none 0 0] 24)).alloc (.cells #[.slice none 0 0] 24)).heap[w.heap.size + 1]? = some (.cells #[.slice none 0 0] 24 (0, 0)) := by
    rw [Below.heap_alloc _ _ _ (by simp)]
    have := heap_alloc_last (w.alloc (.cells #[v] 32)) (.cells #[.slice none 0 0] 24)
    rwa [World.size_alloc] at this
  simp only [World.size_alloc] at h3
  have H2 := Lib.hid h2
  have H3 := Lib.hid h3
  have C := Lib.hid (toSpotS_sl v xs _ hN (hv.below HB0.out))
  have hs0 : (((w.alloc (.cells #[v] 32)).alloc (.cells #[.slice none 0 0] 24)).alloc (.cells #[.slice none 0 0] 24)).heap.size = w.heap.size + 1 + 1 + 1 := by simp
  clear h2 h3 hv
  go_enter Try.func18, Try.ntmps18
  go_wp2_with fail
  refine C.out.mono ?_
  rintro e w1 ⟨rfl, hown, hb⟩
  rw [hs0] at hown hb ⊢
  have P2 := Lib.hid ((hb.block (w.heap.size + 1) (by omega)).trans H2.out)
  have P3 := Lib.hid ((hb.block (w.heap.size + 1 + 1) (by omega)).trans H3.out)
  have B1 := Lib.hid (HB0.out.trans (hb.mono (by omega)))
  have O1 := Lib.hid hown
  have c2 := cell_of_one P2.out
  have c3 := cell_of_one P3.out
  have f2 := free_of_one P2.out
  have f3 := free_of_one P3.out
  have l2 := (Array.getElem?_eq_some_iff.1 P2.out).1
  have l3 := (Array.getElem?_eq_some_iff.1 P3.out).1
  have P2' : Hid ((w1.setCell ⟨w.heap.size + 1 + 1, 0, none⟩ (.slice (some ⟨w.heap.size + 1 + 1 + 1, 0, none⟩) xs.length xs.length)).heap[w.heap.size + 1]? = some (.cells #[.slice none 0 0] 24 (0, 0))) := (Below.heap_setCell _ _ _ _ (by simp)).trans P2.out
  have O2 := Lib.hid (own_set (u := .slice (some ⟨w.heap.size + 1 + 1 + 1, 0, none⟩) xs.length xs.length) (own_set (u := .slice (some ⟨w.heap.size + 1 + 1 + 1, 0, none⟩) xs.length xs.length) O1.out P3.out (by decide)) P2'.out (by decide))
  have B2 := Lib.hid ((B1.out.setCell (p := ⟨w.heap.size + 1 + 1, 0, none⟩) (by simp; omega) (.slice (some ⟨w.heap.size + 1 + 1 + 1, 0, none⟩) xs.length xs.length)).setCell (p := ⟨w.heap.size + 1, 0, none⟩) (by simp) (.slice (some ⟨w.heap.size + 1 + 1 + 1, 0, none⟩) xs.length xs.length))
  clear hown hb
  go_wp2_with fail
  exact bodyPost_ret (results_cell1 (p := 2) (ty := 24) Try.results18 _ _ (w.heap.size + 1) 24 #[.slice (some ⟨w.heap.size + 1 + 1 + 1, 0, none⟩) xs.length xs.length] (0, 0) _ rfl (one_setCell P2'.out) Try.underlying24 rfl infoEl) rfl ⟨_, _, rfl, Joins.ownsRow_le O2.out (by omega), B2.out⟩

theorem szElement_any (v : Value) (xs : List (Int × Int)) (left : Int) (w : World) (h0 : 0 ≤ left) (h1 : left ≤ 1048576) (hN : xs.length ≤ maxLen) (hv : SlA w v xs) :
    Calls Try.prog 16 #[.agg #[v], .int .i64 left] w (fun e w' => ∃ r : Int, e = .returned (.int .i64 r) ∧ r ≤ left ∧ -1 ≤ r ∧ (0 ≤ r → (xs.length : Int) ≤ left) ∧ Below w.heap.size w w') := by
  obtain ⟨ao, cap, rfl⟩ : ∃ ao cap, v = .slice ao xs.length cap := by
    rcases hv with ⟨ao, cap, rfl, rfl⟩ | ⟨b, off, cap, rfl, _⟩
    · exact ⟨_, _, rfl⟩
    · exact ⟨_, _, rfl⟩
  have C := Lib.hid (fun W => szSpotS_any ao xs.length cap left W h0 h1 hN)
  clear hv hN
  go_enter Try.func16, Try.ntmps16
  go_wp2_with fail
  refine (C.out _).mono ?_
  rintro e w' ⟨r, rfl, h2, h3, h4, rfl⟩
  by_cases hr : r < 0
  · go_wp2_with fail
    go_ret
    exact ⟨_, rfl, by omega, by omega, fun h => absurd h (by decide), Joins.below_alloc1 w _⟩
  · go_wp2_with fail
    go_ret
    exact ⟨_, rfl, by omega, by omega, h4, Joins.below_alloc1 w _⟩

set_option maxHeartbeats 2000000 in
set_option maxRecDepth 100000 in
theorem law_ValidElement (v : Value) (xs : List (Int × Int)) (w : World) (hN : xs.length ≤ maxLen) (hwf : ∀ p ∈ xs, (Lit.int .i64 p.1).wf = true ∧ (Lit.int .i64 p.2).wf = true) (hv : SlA w v xs) :
    Calls Try.prog 5 #[.agg #[v]] w fun e w' => e = .returned (.bool true) ∧ Below w.heap.size w w' := by
  have HSL : Hid (∀ W, Below w.heap.size w W → SlA W v xs) := fun W hb => hv.below hb
  have b0 := Joins.below_alloc1 w (.cells #[v] 32)
  have hc0 : (w.alloc (.cells #[v] 32)).cell? ⟨w.heap.size, 0, none⟩ = some v := by rw [World.cell?_alloc_mark]; rfl
  have C0 := Lib.hid (szElement_any v xs 1048576 (w.alloc (.cells #[v] 32)) (by omega) (by omega) hN (HSL.out _ b0))
  have B0 := Lib.hid b0
  have CS : Hid (xs.length ≤ 1048576 → ∀ u W, SlS W u xs → Calls Try.prog 17 #[.agg #[u]] W (SaysB (elB xs) W)) := fun hN u W hu => spec_ValidElement u xs W hN hu
  have CI : Hid (xs.length ≤ 1048576 → ∀ u W, SlS W u xs → Calls Try.prog 19 #[.agg #[u]] W (SaysB (elB xs) W)) := fun hN u W hu => impl_ValidElement u xs W hN hwf hu
  obtain ⟨ok, hok⟩ : ∃ b, elB xs = b := ⟨_, rfl⟩
  rw [hok] at CS CI
  clear hv b0 hok hwf
  go_enter Try.func5, Try.ntmps5
  go_wp2_with fail
  refine C0.out.mono ?_
  rintro e w1 ⟨r, rfl, hr1, hr2, hr3, hb1⟩
  by_cases hr : r < 0
  · have HB1 := Lib.hid hb1
    clear hb1 hr3
    go_wp2_with fail
    go_ret
    exact ⟨rfl, B0.out.trans (HB1.out.mono (by simp))⟩
  · have hsm : xs.length ≤ 1048576 := by have := hr3 (by omega); omega
    have hc1 := cell_kept hb1 hc0
    have HB1 : Hid (Below w.heap.size w w1) := B0.out.trans (hb1.mono (by simp))
    have l1 : w.heap.size < w1.heap.size := by have := hb1.size; simp at this; omega
    clear hb1 hr3 hr2 hr1 hc0
    go_wp2_with fail
    refine (toElement_any v xs _ hsm (HSL.out _ HB1.out)).mono ?_
    rintro e w2 ⟨g2, cap2, rfl, hown2, hb2⟩
    have hc2 := cell_kept hb2 hc1
    have HB2 : Hid (Below w.heap.size w w2) := HB1.out.trans (hb2.mono HB1.out.size)
    have l2 : w.heap.size < w2.heap.size := Nat.lt_of_lt_of_le l1 hb2.size
    have HS2 := Lib.hid hown2.sl
    clear hb2 hown2 hc1
    go_wp2_with fail
    refine (CS.out hsm _ _ HS2.out).mono ?_
    rintro e w3 ⟨rfl, hb3⟩
    have hc3 := cell_kept hb3 hc2
    have HB3 : Hid (Below w.heap.size w w3) := HB2.out.trans (hb3.mono HB2.out.size)
    have l3 : w.heap.size < w3.heap.size := Nat.lt_of_lt_of_le l2 hb3.size
    clear hb3 hc2 HS2
    go_wp2_with fail
    refine (toElement_any v xs _ hsm (HSL.out _ HB3.out)).mono ?_
    rintro e w4 ⟨g4, cap4, rfl, hown4, hb4⟩
    have hc4 := cell_kept hb4 hc3
    have HB4 : Hid (Below w.heap.size w w4) := HB3.out.trans (hb4.mono HB3.out.size)
    have l4 : w.heap.size < w4.heap.size := Nat.lt_of_lt_of_le l3 hb4.size
    have HS4 := Lib.hid hown4.sl
    clear hb4 hown4 hc3
    go_wp2_with fail
    have ba := Joins.below_alloc1 w4 (.cells #[.slice (some ⟨g4, 0, none⟩) xs.length cap4] 24)
    have hx : (w4.alloc (.cells #[.slice (some ⟨g4, 0, none⟩) xs.length cap4] 24)).cell? ⟨w4.heap.size, 0, none⟩ = some (.slice (some ⟨g4, 0, none⟩) xs.length cap4) := by rw [World.cell?_alloc_mark]; rfl
    refine (CI.out hsm _ _ (HS4.out.below ba)).mono ?_
    rintro e w5 ⟨rfl, hb5⟩
    have hx5 := cell_kept hb5 hx
    have hc5 := cell_kept hb5 (cell_kept ba hc4)
    have hs5 := HS4.out.below (ba.trans (hb5.mono (by simp)))
    have HB5 : Hid (Below w.heap.size w w5) := (HB4.out.trans (ba.mono HB4.out.size)).trans (hb5.mono (by simp; omega))
    have HX : Hid (∀ W, Below w5.heap.size w5 W → W.cell? ⟨w.heap.size, 0, none⟩ = some v ∧ W.cell? ⟨w4.heap.size, 0, none⟩ = some (.slice (some ⟨g4, 0, none⟩) xs.length cap4)) := fun W hb => ⟨cell_kept hb hc5, cell_kept hb hx5⟩
    have HT : Hid (∀ W, Below w5.heap.size w5 W → Calls Try.prog 18 #[.agg #[v]] W (TookEl W xs)) := fun W hb => toElement_any v xs W hsm (HSL.out _ (HB5.out.trans (hb.mono HB5.out.size)))
    have HE : Hid (∀ W v3, Below w5.heap.size w5 W → SlS W v3 xs → Calls Try.prog 11 #[.agg #[.slice (some ⟨g4, 0, none⟩) xs.length cap4], .agg #[v3]] W (SaysB true W)) := fun W v3 hb h3 => by
      exact eqElement_same _ v3 xs W hsm (hs5.below hb) h3
    clear hb5 hx hx5 hc5 hc4 ba hs5 HS4
    go_wp2_with fail
    go_region_held3 (fun w' => w'.cell? ⟨w.heap.size, 0, none⟩ = some v ∧ w'.cell? ⟨w4.heap.size, 0, none⟩ = some (.slice (some ⟨g4, 0, none⟩) xs.length cap4))
      (first | exact HX.out _ (Below.refl _ _) | exact HX.out _ (Below.refl _ _).drew | exact HX.out _ ((Below.refl _ _).drew.trans hb6) | exact HX.out _ (((Below.refl _ _).drew.trans hb6).trans (hb7.mono hb6.size)))
      (first | (go_at_call 18; refine (HT.out _ (Below.refl _ _).drew).mono ?_; rintro e w6 ⟨g6, cap6, rfl, hown6, hb6⟩) | (go_at_call 11; refine (HE.out _ _ ((Below.refl _ _).drew.trans hb6) hown6.sl).mono ?_; rintro e w7 ⟨rfl, hb7⟩))
    have HB7 : Hid (Below w.heap.size w w7) := HB5.out.trans (((Below.refl _ _).drew.trans (hb6.trans (hb7.mono hb6.size))).mono HB5.out.size)
    clear hb6 hb7 hown6
    go_wp2
    go_ret
    exact ⟨rfl, HB7.out⟩
end Go.Proofs.Ytelakopkpmkdcaa
