/- Contracts of single functions, and plain lemmas, on which the exact laws of this seat rest; each holds under the conditions that it states. -/
import Derived.Test.YthoffbibaimjlaaDoorSz
import Derived.Test.YthoffbibaimjlaaDoorIn
import Derived.Test.YthoffbibaimjlaaDoorPa
namespace Go.Proofs.YthoffbibaimjlaaDoor
set_option linter.unusedVariables false
set_option linter.unusedSimpArgs false
open Go.RowKit

set_option maxHeartbeats 2000000 in
set_option maxRecDepth 100000 in
theorem law_IsInside (u v : Value) (ss tt : List ByteArray) (w : World) (hN : ss.length ≤ maxLen) (hz : ∀ s ∈ ss, s.size ≤ maxLen) (hu : Sl w u ss) (hN2 : tt.length ≤ maxLen) (hz2 : ∀ s ∈ tt, s.size ≤ maxLen) (hv : Sl w v tt) (he : ErrLen w) :
    Calls Tryd.prog 3 #[.agg #[u], .agg #[v]] w fun e w' => e = .returned (.bool true) ∧ Below w.heap.size w w' := by
  have HSL : Hid (∀ W, Below w.heap.size w W → Sl W u ss) := fun W hb => hu.below hb
  have HSL2 : Hid (∀ W, Below w.heap.size w W → Sl W v tt) := fun W hb => hv.below hb
  have HEL : Hid (∀ W, Below w.heap.size w W → ErrLen W) := fun W hb => he.below hb
  have b0 := Joins.below_alloc2 w (.cells #[u] 24) (.cells #[v] 24)
  have hc0 : ((w.alloc (.cells #[u] 24)).alloc (.cells #[v] 24)).cell? ⟨w.heap.size, 0, none⟩ = some u := cell_of_one (t := 24) (by rw [Below.heap_alloc _ _ _ (by simp)]; exact heap_alloc_last w _)
  have hd0 : ((w.alloc (.cells #[u] 24)).alloc (.cells #[v] 24)).cell? ⟨w.heap.size + 1, 0, none⟩ = some v := cell_of_one (heap_alloc2_new _ _ _)
  have C0 := Lib.hid (szPicture_any u ss 1048576 _ (by omega) (by omega) hN hz (HSL.out _ b0))
  have HZ2 : Hid (∀ (left : Int) W, 0 ≤ left → left ≤ 1048576 → Below w.heap.size w W → Calls Tryd.prog 5 #[.agg #[v], .int .i64 left] W (SomeSz left tt W)) := fun left W h0 h1 hb => szPicture_any v tt left W h0 h1 hN2 hz2 (HSL2.out _ hb)
  have B0 := Lib.hid b0
  have CS : Hid (∀ x y W, Sl W x ss → Sl W y tt → Calls Tryd.prog 6 #[.agg #[x], .agg #[y]] W (SaysB (insideP ss tt) W)) := fun x y W hx hy => spec_Inside x y ss tt W hN hz hx hN2 hz2 hy
  have CI : Hid (∀ x y W, Sl W x ss → Sl W y tt → ErrLen W → Calls Tryd.prog 8 #[.agg #[x], .agg #[y]] W (SaysB (insideP ss tt) W)) := fun x y W hx hy hw => impl_Inside x y ss tt W hN hz hx hN2 hz2 hy hw
  have CE1 : Hid (∀ x y W, Sl W x ss → Sl W y ss → Calls Tryd.prog 9 #[.agg #[x], .agg #[y]] W (SaysB true W)) := fun x y W hx hy => by
    have := eqPicture_any x y ss ss W hN hN hx hy
    rwa [sameL_self] at this
  have CE2 : Hid (∀ x y W, Sl W x tt → Sl W y tt → Calls Tryd.prog 9 #[.agg #[x], .agg #[y]] W (SaysB true W)) := fun x y W hx hy => by
    have := eqPicture_any x y tt tt W hN2 hN2 hx hy
    rwa [sameL_self] at this
  obtain ⟨ok, hok⟩ : ∃ b, insideP ss tt = b := ⟨_, rfl⟩
  rw [hok] at CS CI
  clear hu hv he b0 hok
  go_enter Tryd.func3, Tryd.ntmps3
  go_wp2_with fail
  refine C0.out.mono ?_
  rintro e w1 ⟨r, rfl, hr1, hr2, hr3, hb1⟩
  by_cases hr : r < 0
  · have HB1 := Lib.hid hb1
    clear hb1 hr3
    go_wp2_with fail
    go_ret
    exact ⟨rfl, B0.out.trans (HB1.out.mono (by simp; omega))⟩
  · have hsm : ss.length ≤ 1048576 := by have := (hr3 (by omega)).1; omega
    have hc1 := cell_kept hb1 hc0
    have hd1 := cell_kept hb1 hd0
    have B1 : Hid (Below w.heap.size w w1) := B0.out.trans (hb1.mono (by simp; omega))
    have l1 : w.heap.size + 1 < w1.heap.size := by have := hb1.size; simp at this; omega
    clear hb1 hr3 hr2 hc0 hd0
    go_wp2_with fail
    refine (HZ2.out r _ (by omega) hr1 B1.out).mono ?_
    rintro e w2 ⟨r2, rfl, hq1, hq2, hq3, hb2⟩
    by_cases hr' : r2 < 0
    · have HB2 := Lib.hid hb2
      clear hb2 hq3
      go_wp2_with fail
      go_ret
      exact ⟨rfl, B1.out.trans (HB2.out.mono B1.out.size)⟩
    · have hsm2 : tt.length ≤ 1048576 := by have := (hq3 (by omega)).1; omega
      have hc2 := cell_kept hb2 hc1
      have hd2 := cell_kept hb2 hd1
      have B2 : Hid (Below w.heap.size w w2) := B1.out.trans (hb2.mono B1.out.size)
      have l2 : w.heap.size + 1 < w2.heap.size := Nat.lt_of_lt_of_le l1 hb2.size
      have HX : Hid (∀ W, Below w2.heap.size w2 W → W.cell? ⟨w.heap.size, 0, none⟩ = some u ∧ W.cell? ⟨w.heap.size + 1, 0, none⟩ = some v) := fun W hb => ⟨cell_kept hb hc2, cell_kept hb hd2⟩
      have HT1 : Hid (∀ W, Below w2.heap.size w2 W → Calls Tryd.prog 7 #[.agg #[u]] W (TookPic W ss)) := fun W hb => toPicture_any u ss W hsm (HSL.out _ (B2.out.trans (hb.mono B2.out.size)))
      have HT2 : Hid (∀ W, Below w2.heap.size w2 W → Calls Tryd.prog 7 #[.agg #[v]] W (TookPic W tt)) := fun W hb => toPicture_any v tt W hsm2 (HSL2.out _ (B2.out.trans (hb.mono B2.out.size)))
      clear hb2 hq3 hq2 hq1 hr1 hc1 hd1
      go_wp2_with fail
      go_region_held3 (fun w' => w'.cell? ⟨w.heap.size, 0, none⟩ = some u ∧ w'.cell? ⟨w.heap.size + 1, 0, none⟩ = some v)
        (first | exact HX.out _ (Below.refl _ _) | exact HX.out _ (Below.refl _ _).drew | exact HX.out _ ((Below.refl _ _).drew.trans hb3) | exact HX.out _ (((Below.refl _ _).drew.trans hb3).trans (hb4.mono hb3.size)) | exact HX.out _ ((((Below.refl _ _).drew.trans hb3).trans (hb4.mono hb3.size)).trans (hb5.mono (Nat.le_trans hb3.size hb4.size))))
        (first | (go_at_call 7; refine (HT1.out _ (Below.refl _ _).drew).mono ?_; rintro e w3 ⟨g3, cap3, rfl, hown3, hb3⟩) | (go_at_call 7; refine (HT2.out _ ((Below.refl _ _).drew.trans hb3)).mono ?_; rintro e w4 ⟨g4, cap4, rfl, hown4, hb4⟩) | (go_at_call 6; refine (CS.out _ _ _ (hown3.sl.below hb4) hown4.sl).mono ?_; rintro e w5 ⟨rfl, hb5⟩))
      have hb25 := (((Below.refl w2.heap.size w2).drew.trans hb3).trans (hb4.mono hb3.size)).trans (hb5.mono (Nat.le_trans hb3.size hb4.size))
      have B5 : Hid (Below w.heap.size w w5) := B2.out.trans (hb25.mono B2.out.size)
      have hcd5 := HX.out _ hb25
      have hc5 := hcd5.1
      have hd5 := hcd5.2
      have l5 : w.heap.size + 1 < w5.heap.size := Nat.lt_of_lt_of_le l2 hb25.size
      clear hb3 hb4 hb5 hb25 hown3 hown4 hcd5 HX hc2 hd2 HT1 HT2
      go_wp2_with fail
      refine (toPicture_any u ss _ hsm (HSL.out _ B5.out)).mono ?_
      rintro e w6 ⟨g6, cap6, rfl, hown6, hb6⟩
      have P6 := Lib.hid (Pic1.new hown6)
      have hba := hb6.trans ((Joins.below_alloc1 w6 (.cells #[.slice (some ⟨g6, 0, none⟩) ss.length cap6] 27)).mono hb6.size)
      have B6 := Lib.hid (B5.out.trans (hba.mono B5.out.size))
      have hc6 := cell_kept hba hc5
      have hd6 := cell_kept hba hd5
      clear hb6 hba hown6 hc5 hd5
      go_wp2_with fail
      refine (toPicture_any v tt _ hsm2 (HSL2.out _ B6.out)).mono ?_
      rintro e w7 ⟨g7, cap7, rfl, hown7, hb7⟩
      have Q7 := Lib.hid (Pic1.new hown7)
      have hba := hb7.trans ((Joins.below_alloc1 w7 (.cells #[.slice (some ⟨g7, 0, none⟩) tt.length cap7] 27)).mono hb7.size)
      have P7 := Lib.hid (P6.out.below hba)
      have B7 := Lib.hid (B6.out.trans (hba.mono B6.out.size))
      have hc7 := cell_kept hba hc6
      have hd7 := cell_kept hba hd6
      have x7 := P7.out.v
      have y7 := Q7.out.v
      clear hb7 hba hown7 hc6 hd6 P6
      go_wp2_with fail
      refine (CI.out _ _ _ P7.out.sl Q7.out.sl (HEL.out _ B7.out)).mono ?_
      rintro e w8 ⟨rfl, hb8⟩
      have P8 := Lib.hid (P7.out.below hb8)
      have Q8 := Lib.hid (Q7.out.below hb8)
      have B8 := Lib.hid (B7.out.trans (hb8.mono B7.out.size))
      have hc8 := cell_kept hb8 hc7
      have hd8 := cell_kept hb8 hd7
      have HX : Hid (∀ W, Below w8.heap.size w8 W → W.cell? ⟨w.heap.size, 0, none⟩ = some u ∧ W.cell? ⟨w6.heap.size, 0, none⟩ = some (.slice (some ⟨g6, 0, none⟩) ss.length cap6)) := fun W hb => ⟨cell_kept hb hc8, (P8.out.below hb).v⟩
      have HT1 : Hid (∀ W, Below w8.heap.size w8 W → Calls Tryd.prog 7 #[.agg #[u]] W (TookPic W ss)) := fun W hb => toPicture_any u ss W hsm (HSL.out _ (B8.out.trans (hb.mono B8.out.size)))
      have HE1 : Hid (∀ W x, Below w8.heap.size w8 W → Sl W x ss → Calls Tryd.prog 9 #[.agg #[.slice (some ⟨g6, 0, none⟩) ss.length cap6], .agg #[x]] W (SaysB true W)) := fun W x hb hx => CE1.out _ x W (P8.out.below hb).sl hx
      clear hb8 hc7 hd7 P7 Q7 x7 y7
      go_wp2_with fail
      go_region_held3 (fun w' => w'.cell? ⟨w.heap.size, 0, none⟩ = some u ∧ w'.cell? ⟨w6.heap.size, 0, none⟩ = some (.slice (some ⟨g6, 0, none⟩) ss.length cap6))
        (first | exact HX.out _ (Below.refl _ _) | exact HX.out _ (Below.refl _ _).drew | exact HX.out _ ((Below.refl _ _).drew.trans hb9) | exact HX.out _ (((Below.refl _ _).drew.trans hb9).trans (hb10.mono hb9.size)))
        (first | (go_at_call 7; refine (HT1.out _ (Below.refl _ _).drew).mono ?_; rintro e w9 ⟨g9, cap9, rfl, hown9, hb9⟩) | (go_at_call 9; refine (HE1.out _ _ ((Below.refl _ _).drew.trans hb9) hown9.sl).mono ?_; rintro e w10 ⟨rfl, hb10⟩))
      have hb810 := (Below.refl w8.heap.size w8).drew.trans (hb9.trans (hb10.mono hb9.size))
      have Q10 := Lib.hid (Q8.out.below hb810)
      have B10 : Hid (Below w.heap.size w w10) := B8.out.trans (hb810.mono B8.out.size)
      have hd10 := cell_kept hb810 hd8
      have HX2 : Hid (∀ W, Below w10.heap.size w10 W → W.cell? ⟨w.heap.size + 1, 0, none⟩ = some v ∧ W.cell? ⟨w7.heap.size, 0, none⟩ = some (.slice (some ⟨g7, 0, none⟩) tt.length cap7)) := fun W hb => ⟨cell_kept hb hd10, (Q10.out.below hb).v⟩
      have HT2 : Hid (∀ W, Below w10.heap.size w10 W → Calls Tryd.prog 7 #[.agg #[v]] W (TookPic W tt)) := fun W hb => toPicture_any v tt W hsm2 (HSL2.out _ (B10.out.trans (hb.mono B10.out.size)))
      have HE2 : Hid (∀ W x, Below w10.heap.size w10 W → Sl W x tt → Calls Tryd.prog 9 #[.agg #[.slice (some ⟨g7, 0, none⟩) tt.length cap7], .agg #[x]] W (SaysB true W)) := fun W x hb hx => CE2.out _ x W (Q10.out.below hb).sl hx
      clear hb9 hb10 hb810 hown9 hc8 hd8 HX HT1 HE1 P8 Q8
      go_wp2_with fail
      go_region_held3 (fun w' => w'.cell? ⟨w.heap.size + 1, 0, none⟩ = some v ∧ w'.cell? ⟨w7.heap.size, 0, none⟩ = some (.slice (some ⟨g7, 0, none⟩) tt.length cap7))
        (first | exact HX2.out _ (Below.refl _ _) | exact HX2.out _ (Below.refl _ _).drew | exact HX2.out _ ((Below.refl _ _).drew.trans hb11) | exact HX2.out _ (((Below.refl _ _).drew.trans hb11).trans (hb12.mono hb11.size)))
        (first | (go_at_call 7; refine (HT2.out _ (Below.refl _ _).drew).mono ?_; rintro e w11 ⟨g11, cap11, rfl, hown11, hb11⟩) | (go_at_call 9; refine (HE2.out _ _ ((Below.refl _ _).drew.trans hb11) hown11.sl).mono ?_; rintro e w12 ⟨rfl, hb12⟩))
      have B12 : Hid (Below w.heap.size w w12) := B10.out.trans (((Below.refl w10.heap.size w10).drew.trans (hb11.trans (hb12.mono hb11.size))).mono B10.out.size)
      clear hb11 hb12 hown11
      go_wp2
      go_ret
      exact ⟨rfl, B12.out⟩
end Go.Proofs.YthoffbibaimjlaaDoor
