/- Contracts of single functions, and plain lemmas, on which the exact laws of this seat rest; each holds under the conditions that it states. -/
import Derived.Test.YtaopdhncapoefaaDoorSz
import Derived.Test.YtaopdhncapoefaaDoorE5
namespace Go.Proofs.YtaopdhncapoefaaDoor
set_option linter.unusedVariables false
open Go.RowKit

set_option maxHeartbeats 2000000 in
set_option maxRecDepth 100000 in
theorem law_EdgeLength (v : Value) (ss : List ByteArray) (w : World) (hN : ss.length ≤ maxLen) (hz : ∀ s ∈ ss, s.size ≤ maxLen) (hv : Sl w v ss) (he : ErrLen w) (hRp : RightP w) :
    Calls Tryd.prog 3 #[.agg #[v]] w fun e w' => e = .returned (.bool true) ∧ Below w.heap.size w w' := by
  have HSL : Hid (∀ W, Below w.heap.size w W → Sl W v ss) := fun W hb => hv.below hb
  have HEL : Hid (∀ W, Below w.heap.size w W → ErrLen W) := fun W hb => he.below hb
  have HRP : Hid (∀ W, Below w.heap.size w W → RightP W) := fun W hb => hRp.below hb
  have b0 := Joins.below_alloc1 w (.cells #[v] 24)
  have hc0 : (w.alloc (.cells #[v] 24)).cell? ⟨w.heap.size, 0, none⟩ = some v := by rw [World.cell?_alloc_mark]; rfl
  have C0 := Lib.hid (szPicture_any v ss 1048576 (w.alloc (.cells #[v] 24)) (by omega) (by omega) hN hz (HSL.out _ b0))
  have B0 := Lib.hid b0
  have CS : Hid (∀ u W, Sl W u ss → Calls Tryd.prog 8 #[.agg #[u]] W (SaysIB (elV ss) (validB ss) W)) := fun u W hu => by rw [elV_esV]; exact spec_Edge u ss W hN hz hu
  have CI : Hid (∀ u W, Sl W u ss → ErrLen W → RightP W → Calls Tryd.prog 10 #[.agg #[u]] W (SaysIB (elV ss) (validB ss) W)) := fun u W hu hw hr => impl_Edge u ss W hN hz hu hw hr
  obtain ⟨ok, hok⟩ : ∃ b, validB ss = b := ⟨_, rfl⟩
  obtain ⟨val, hval⟩ : ∃ b, elV ss = b := ⟨_, rfl⟩
  rw [hok, hval] at CS CI
  clear hv he hRp b0 hok hval
  go_enter Tryd.func3, Tryd.ntmps3
  go_wp2_with fail
  refine C0.out.mono ?_
  rintro e w1 ⟨r, rfl, hr1, hr2, hr3, hb1⟩
  by_cases hr : r < 0
  · have HB1 := Lib.hid hb1
    clear hb1 hr3
    go_wp2_with fail
    go_ret
    exact ⟨rfl, B0.out.trans (HB1.out.mono (by simp))⟩
  · have hsm : ss.length ≤ 1048576 := by have := (hr3 (by omega)).1; omega
    have hc1 := cell_kept hb1 hc0
    have HB1 : Hid (Below w.heap.size w w1) := B0.out.trans (hb1.mono (by simp))
    have l1 : w.heap.size < w1.heap.size := by have := hb1.size; simp at this; omega
    clear hb1 hr3 hr2 hr1 hc0
    go_wp2_with fail
    refine (toPicture_any v ss _ hsm (HSL.out _ HB1.out)).mono ?_
    rintro e w2 ⟨g2, cap2, rfl, hown2, hb2⟩
    have hc2 := cell_kept hb2 hc1
    have HB2 : Hid (Below w.heap.size w w2) := HB1.out.trans (hb2.mono HB1.out.size)
    have l2 : w.heap.size < w2.heap.size := Nat.lt_of_lt_of_le l1 hb2.size
    have HS2 := Lib.hid hown2.sl
    clear hb2 hown2 hc1
    go_wp2_with fail
    refine (CS.out _ _ HS2.out).mono ?_
    rintro e w3 ⟨rfl, hb3⟩
    have hc3 := cell_kept hb3 hc2
    have HB3 : Hid (Below w.heap.size w w3) := HB2.out.trans (hb3.mono HB2.out.size)
    have l3 : w.heap.size < w3.heap.size := Nat.lt_of_lt_of_le l2 hb3.size
    clear hb3 hc2 HS2
    go_wp2_with fail
    refine (toPicture_any v ss _ hsm (HSL.out _ HB3.out)).mono ?_
    rintro e w4 ⟨g4, cap4, rfl, hown4, hb4⟩
    have hc4 := cell_kept hb4 hc3
    have HB4 : Hid (Below w.heap.size w w4) := HB3.out.trans (hb4.mono HB3.out.size)
    have l4 : w.heap.size < w4.heap.size := Nat.lt_of_lt_of_le l3 hb4.size
    have HS4 := Lib.hid hown4.sl
    clear hb4 hown4 hc3
    go_wp2_with fail
    have ba := Joins.below_alloc1 w4 (.cells #[.slice (some ⟨g4, 0, none⟩) ss.length cap4] 28)
    have hx : (w4.alloc (.cells #[.slice (some ⟨g4, 0, none⟩) ss.length cap4] 28)).cell? ⟨w4.heap.size, 0, none⟩ = some (.slice (some ⟨g4, 0, none⟩) ss.length cap4) := by rw [World.cell?_alloc_mark]; rfl
    refine (CI.out _ _ (HS4.out.below ba) (HEL.out _ (HB4.out.trans (ba.mono HB4.out.size))) (HRP.out _ (HB4.out.trans (ba.mono HB4.out.size)))).mono ?_
    rintro e w5 ⟨rfl, hb5⟩
    have hx5 := cell_kept hb5 hx
    have hc5 := cell_kept hb5 (cell_kept ba hc4)
    have hs5 := HS4.out.below (ba.trans (hb5.mono (by simp)))
    have HB5 : Hid (Below w.heap.size w w5) := (HB4.out.trans (ba.mono HB4.out.size)).trans (hb5.mono (by simp; omega))
    have HX : Hid (∀ W, Below w5.heap.size w5 W → W.cell? ⟨w.heap.size, 0, none⟩ = some v ∧ W.cell? ⟨w4.heap.size, 0, none⟩ = some (.slice (some ⟨g4, 0, none⟩) ss.length cap4)) := fun W hb => ⟨cell_kept hb hc5, cell_kept hb hx5⟩
    have HT : Hid (∀ W, Below w5.heap.size w5 W → Calls Tryd.prog 9 #[.agg #[v]] W (TookPic W ss)) := fun W hb => toPicture_any v ss W hsm (HSL.out _ (HB5.out.trans (hb.mono HB5.out.size)))
    have HE : Hid (∀ W v3, Below w5.heap.size w5 W → Sl W v3 ss → Calls Tryd.prog 11 #[.agg #[.slice (some ⟨g4, 0, none⟩) ss.length cap4], .agg #[v3]] W (SaysB true W)) := fun W v3 hb h3 => by
      have := eqPicture_any _ v3 ss ss W hN hN (hs5.below hb) h3
      rwa [sameL_self] at this
    clear hb5 hx hx5 hc5 hc4 ba hs5 HS4
    go_wp2_with fail
    go_region_held3 (fun w' => w'.cell? ⟨w.heap.size, 0, none⟩ = some v ∧ w'.cell? ⟨w4.heap.size, 0, none⟩ = some (.slice (some ⟨g4, 0, none⟩) ss.length cap4))
      (first | exact HX.out _ (Below.refl _ _) | exact HX.out _ (Below.refl _ _).drew | exact HX.out _ ((Below.refl _ _).drew.trans hb6) | exact HX.out _ (((Below.refl _ _).drew.trans hb6).trans (hb7.mono hb6.size)))
      (first | (go_at_call 9; refine (HT.out _ (Below.refl _ _).drew).mono ?_; rintro e w6 ⟨g6, cap6, rfl, hown6, hb6⟩) | (go_at_call 11; refine (HE.out _ _ ((Below.refl _ _).drew.trans hb6) hown6.sl).mono ?_; rintro e w7 ⟨rfl, hb7⟩))
    have HB7 : Hid (Below w.heap.size w w7) := HB5.out.trans (((Below.refl _ _).drew.trans (hb6.trans (hb7.mono hb6.size))).mono HB5.out.size)
    clear hb6 hb7 hown6
    go_wp2
    go_ret
    exact ⟨rfl, HB7.out⟩
end Go.Proofs.YtaopdhncapoefaaDoor
