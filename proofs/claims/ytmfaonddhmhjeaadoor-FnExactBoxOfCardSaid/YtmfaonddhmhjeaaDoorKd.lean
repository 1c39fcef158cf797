/- Contracts of single functions, and plain lemmas, on which the exact laws of this seat rest; each holds under the conditions that it states. -/
import Derived.Test.YtmfaonddhmhjeaaDoorKc
import Derived.Test.YtmfaonddhmhjeaaDoorPa
import Derived.Deep.RegionHeld3
namespace Go.Proofs.YtmfaonddhmhjeaaDoor
set_option linter.unusedVariables false
set_option linter.unusedSimpArgs false
open Go.RowKit

theorem impl_Box (v : Value) (ss : List ByteArray) (w : World) (hN : ss.length ≤ maxLen) (hz : ∀ s ∈ ss, s.size ≤ maxLen) (hv : Sl w v ss) (he : ErrLen w) (hT : TabW w) :
    Calls Tryd.prog 22 #[.agg #[v]] w (SaysBox ss w) := by
  cases hok : validB ss with
  | false => exact impl_Box_no v ss w hN hz hv he hok
  | true => exact impl_Box_yes v ss w hN hz hv he hT hok

theorem two_spots (w : World) (a b c d : Int) : SpV ((w.alloc (.cells #[.int .i64 a, .int .i64 b] 42)).alloc (.cells #[.int .i64 c, .int .i64 d] 42)) w.heap.size a b ∧ SpV ((w.alloc (.cells #[.int .i64 a, .int .i64 b] 42)).alloc (.cells #[.int .i64 c, .int .i64 d] 42)) (w.heap.size + 1) c d := by
  refine ⟨?_, heap_alloc2_new _ _ _⟩
  show _ = _
  rw [Below.heap_alloc _ _ _ (by simp)]; exact heap_alloc_last w _

set_option maxHeartbeats 4000000 in
set_option maxRecDepth 100000 in
theorem law_BoxOf (v : Value) (ss : List ByteArray) (w : World) (hN : ss.length ≤ maxLen) (hz : ∀ s ∈ ss, s.size ≤ maxLen) (hv : Sl w v ss) (he : ErrLen w) (hT : TabW w) :
    Calls Tryd.prog 5 #[.agg #[v]] w fun e w' => e = .returned (.bool true) ∧ Below w.heap.size w w' := by
  have HSL : Hid (∀ W, Below w.heap.size w W → Sl W v ss) := fun W hb => hv.below hb
  have b0 := Joins.below_alloc1 w (.cells #[v] 36)
  have hc0 : (w.alloc (.cells #[v] 36)).cell? ⟨w.heap.size, 0, none⟩ = some v := by rw [World.cell?_alloc_mark]; rfl
  have C0 := Lib.hid (szPicture_any v ss 1048576 (w.alloc (.cells #[v] 36)) (by omega) (by omega) hN hz (HSL.out _ b0))
  have B0 := Lib.hid b0
  have CS : Hid (∀ u W, Sl W u ss → Calls Tryd.prog 21 #[.agg #[u]] W (SaysBox ss W)) := fun u W hu => spec_Box u ss W hN hz hu
  have CI : Hid (∀ u W, Sl W u ss → Below w.heap.size w W → Calls Tryd.prog 22 #[.agg #[u]] W (SaysBox ss W)) := fun u W hu hb => impl_Box u ss W hN hz hu (he.below hb) (hT.below hb)
  have CE : Hid (∀ p q W, Calls Tryd.prog 23 #[.agg #[.int .i64 p, .int .i64 q], .agg #[.int .i64 p, .int .i64 q]] W (SaysB true W)) := fun p q W => by
    have := eqSpot_any p q p q W
    simpa using this
  have CEs : Hid (∀ u v W, Sl W u ss → Sl W v ss → Calls Tryd.prog 11 #[.agg #[u], .agg #[v]] W (SaysB true W)) := fun u v W hu hv => by
    have := eqPicture_any u v ss ss W hN hN hu hv
    rwa [sameL_self] at this
  unfold SaysBox at CS CI
  clear hv he hT b0
  go_enter Tryd.func5, Tryd.ntmps5
  go_wp2_with fail
  refine C0.out.mono ?_
  rintro e w1 ⟨r, rfl, hr1, hr2, hr3, hb1⟩
  by_cases hr : r < 0
  · have HB1 := Lib.hid hb1
    clear hb1 hr3
    go_wp2_with fail
    go_ret
    exact ⟨rfl, B0.out.trans (HB1.out.mono (by simp))⟩
  · have hsm : ss.length ≤ 1048576 := by have := (hr3 (by omega)).1; omega
    have hc1 := cell_kept hb1 hc0
    have B1 : Hid (Below w.heap.size w w1) := B0.out.trans (hb1.mono (by simp))
    clear hb1 hr3 hr2 hr1 hc0
    go_wp2_with fail
    refine (toPicture_any v ss _ hsm (HSL.out _ B1.out)).mono ?_
    rintro e w2 ⟨g2, cap2, rfl, hown2, hb2⟩
    have hc2 := cell_kept hb2 hc1
    have B2 : Hid (Below w.heap.size w w2) := B1.out.trans (hb2.mono B1.out.size)
    have S2 := Lib.hid hown2.sl
    clear hb2 hown2 hc1
    go_wp2_with fail
    refine (CS.out _ _ S2.out).mono ?_
    rintro e w3 ⟨a, b, c, d, ok, rfl, hbs, hb3⟩
    have HS := Lib.hid hbs
    have hbb := Joins.below_alloc2 w3 (.cells #[.int .i64 a, .int .i64 b] 42) (.cells #[.int .i64 c, .int .i64 d] 42)
    have hc3 := cell_kept hbb (cell_kept hb3 hc2)
    have T3 := Lib.hid (two_spots w3 a b c d)
    have B3 := Lib.hid ((B2.out.trans (hb3.mono B2.out.size)).trans (hbb.mono (Nat.le_trans B2.out.size hb3.size)))
    clear hb3 hbs hbb hc2 S2
    go_wp2_with fail
    refine (toPicture_any v ss _ hsm (HSL.out _ B3.out)).mono ?_
    rintro e w4 ⟨g4, cap4, rfl, hown4, hb4⟩
    have X4 := Lib.hid (Pic1.new hown4)
    have hba := hb4.trans ((Joins.below_alloc1 w4 (.cells #[.slice (some ⟨g4, 0, none⟩) ss.length cap4] 26)).mono hb4.size)
    have hc4 := cell_kept hba hc3
    have U1 := Lib.hid (T3.out.1.below hba)
    have U2 := Lib.hid (T3.out.2.below hba)
    have B4 := Lib.hid (B3.out.trans (hba.mono B3.out.size))
    have x4 := X4.out.v
    clear hb4 hba hown4 hc3 T3
    go_wp2_with fail
    refine (CI.out _ _ X4.out.sl B4.out).mono ?_
    rintro e w5 ⟨a', b', c', d', ok', rfl, hbs, hb5⟩
    obtain ⟨rfl, rfl, rfl, rfl, rfl⟩ := HS.out.unique hbs
    have hbb := hb5.trans ((Joins.below_alloc2 w5 (.cells #[.int .i64 a, .int .i64 b] 42) (.cells #[.int .i64 c, .int .i64 d] 42)).mono hb5.size)
    have hc5 := cell_kept hbb hc4
    have T5 := Lib.hid (two_spots w5 a b c d)
    have V1 := Lib.hid (U1.out.below hbb)
    have V2 := Lib.hid (U2.out.below hbb)
    have X5 := Lib.hid (X4.out.below hbb)
    have B5 := Lib.hid (B4.out.trans (hbb.mono B4.out.size))
    have y1 := T5.out.1.c0
    have y2 := T5.out.1.c1
    have z1 := V1.out.c0
    have z2 := V1.out.c1
    clear hb5 hbs hbb hc4 U1 U2 X4 x4
    go_wp2_with fail
    refine (CE.out _ _ _).mono ?_
    rintro e w6 ⟨rfl, hb6⟩
    have hc6 := cell_kept hb6 hc5
    have T6 := Lib.hid (T5.out.2.below hb6)
    have V6 := Lib.hid (V2.out.below hb6)
    have X6 := Lib.hid (X5.out.below hb6)
    have B6 := Lib.hid (B5.out.trans (hb6.mono B5.out.size))
    have y1 := T6.out.c0
    have y2 := T6.out.c1
    have z1 := V6.out.c0
    have z2 := V6.out.c1
    clear hb6 hc5 V1 V2 X5 T5
    go_wp2_with fail
    refine (CE.out _ _ _).mono ?_
    rintro e w7 ⟨rfl, hb7⟩
    have hc7 := cell_kept hb7 hc6
    have X7 := Lib.hid (X6.out.below hb7)
    have B7 := Lib.hid (B6.out.trans (hb7.mono B6.out.size))
    have HX : Hid (∀ W, Below w7.heap.size w7 W → W.cell? ⟨w.heap.size, 0, none⟩ = some v ∧ W.cell? ⟨w4.heap.size, 0, none⟩ = some (.slice (some ⟨g4, 0, none⟩) ss.length cap4)) := fun W hb => ⟨cell_kept hb hc7, (X7.out.below hb).v⟩
    have HT1 : Hid (∀ W, Below w7.heap.size w7 W → Calls Tryd.prog 18 #[.agg #[v]] W (TookPic W ss)) := fun W hb => toPicture_any v ss W hsm (HSL.out _ (B7.out.trans (hb.mono B7.out.size)))
    have HE1 : Hid (∀ W x, Below w7.heap.size w7 W → Sl W x ss → Calls Tryd.prog 11 #[.agg #[.slice (some ⟨g4, 0, none⟩) ss.length cap4], .agg #[x]] W (SaysB true W)) := fun W x hb hx => CEs.out _ x W (X7.out.below hb).sl hx
    clear hb7 hc6 X6 T6 V6 y1 y2 z1 z2
    go_wp2_with fail
    go_region_held3 (fun w' => w'.cell? ⟨w.heap.size, 0, none⟩ = some v ∧ w'.cell? ⟨w4.heap.size, 0, none⟩ = some (.slice (some ⟨g4, 0, none⟩) ss.length cap4))
      (first | exact HX.out _ (Below.refl _ _) | exact HX.out _ (Below.refl _ _).drew | exact HX.out _ ((Below.refl _ _).drew.trans hba) | exact HX.out _ (((Below.refl _ _).drew.trans hba).trans (hbb.mono hba.size)))
      (first | (go_at_call 18; refine (HT1.out _ (Below.refl _ _).drew).mono ?_; rintro e w10 ⟨ga, capa, rfl, howna, hba⟩) | (go_at_call 11; refine (HE1.out _ _ ((Below.refl _ _).drew.trans hba) howna.sl).mono ?_; rintro e w11 ⟨rfl, hbb⟩))
    have hbc := (Below.refl w7.heap.size w7).drew.trans (hba.trans (hbb.mono hba.size))
    have B11 : Hid (Below w.heap.size w w11) := B7.out.trans (hbc.mono B7.out.size)
    clear hba hbb hbc howna hc7 HX HT1 HE1 X7
    go_wp2
    go_ret
    exact ⟨rfl, B11.out⟩
end Go.Proofs.YtmfaonddhmhjeaaDoor
