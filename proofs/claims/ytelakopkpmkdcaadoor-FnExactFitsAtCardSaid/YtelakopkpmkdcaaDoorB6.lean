/- Contracts of single functions, and plain lemmas, on which the exact laws of this seat rest; each holds under the conditions that it states. -/
import Derived.Test.YtelakopkpmkdcaaDoorB5
import Derived.Test.YtelakopkpmkdcaaDoorAo
import Derived.Test.YtelakopkpmkdcaaDoorSz
import Derived.Test.YtelakopkpmkdcaaDoorTo
namespace Go.Proofs.YtelakopkpmkdcaaDoor
set_option linter.unusedVariables false
set_option linter.unusedSimpArgs false
open Go.RowKit

set_option maxHeartbeats 4000000 in
set_option maxRecDepth 100000 in
theorem law_FitsAt (u v : Value) (ss : List ByteArray) (xs : List (Int × Int)) (X Y : Int) (w : World) (hN : ss.length ≤ maxLen) (hz : ∀ s ∈ ss, s.size ≤ maxLen) (hu : Sl w u ss) (hM : xs.length ≤ maxLen) (hwf : ∀ p ∈ xs, (Lit.int .i64 p.1).wf = true ∧ (Lit.int .i64 p.2).wf = true) (hv : SlA w v xs) (he : ErrLen w) :
    Calls Tryd.prog 3 #[.agg #[u], .agg #[v], .agg #[.int .i64 X, .int .i64 Y]] w fun e w' => e = .returned (.bool true) ∧ Below w.heap.size w w' := by
  have HSL : Hid (∀ W, Below w.heap.size w W → Sl W u ss) := fun W hb => hu.below hb
  have HSA : Hid (∀ W, Below w.heap.size w W → SlA W v xs) := fun W hb => hv.below hb
  have HEL : Hid (∀ W, Below w.heap.size w W → ErrLen W) := fun W hb => he.below hb
  obtain ⟨W0, hW0⟩ : ∃ W0, (((w.alloc (.cells #[u] 24)).alloc (.cells #[v] 27)).alloc (.cells #[.int .i64 X, .int .i64 Y] 29)) = W0 := ⟨_, rfl⟩
  have b0 : Below w.heap.size w W0 := by rw [← hW0]; exact Joins.below_alloc3 _ _ _ _
  have hs0 : W0.heap.size = w.heap.size + 1 + 1 + 1 := by rw [← hW0]; simp
  have hp0 : W0.heap[w.heap.size]? = some (.cells #[u] 24 (0, 0)) := by
    rw [← hW0, Below.heap_alloc _ _ _ (by simp; omega), Below.heap_alloc _ _ _ (by simp)]; exact heap_alloc_last w _
  have hq0 : W0.heap[w.heap.size + 1]? = some (.cells #[v] 27 (0, 0)) := by
    rw [← hW0, Below.heap_alloc _ _ _ (by simp)]
    have := heap_alloc_last (w.alloc (.cells #[u] 24)) (.cells #[v] 27)
    rwa [World.size_alloc] at this
  have hr0 : W0.heap[w.heap.size + 1 + 1]? = some (.cells #[.int .i64 X, .int .i64 Y] 29 (0, 0)) := by
    rw [← hW0]
    have := heap_alloc_last ((w.alloc (.cells #[u] 24)).alloc (.cells #[v] 27)) (.cells #[.int .i64 X, .int .i64 Y] 29)
    simpa only [World.size_alloc] using this
  have HV0 : Hid (∀ W, Below W0.heap.size W0 W → W.cell? ⟨w.heap.size, 0, none⟩ = some u ∧ W.cell? ⟨w.heap.size + 1, 0, none⟩ = some v ∧ W.cell? ⟨w.heap.size + 1 + 1, 0, none⟩ = some (.int .i64 X) ∧ W.cell? ⟨w.heap.size + 1 + 1, 1, none⟩ = some (.int .i64 Y)) := fun W hb =>
    ⟨cell_kept hb (cell_of_one hp0), cell_kept hb (cell_of_one hq0), cell_kept hb (by rw [Joins.cell_of_block hr0 0]; rfl), cell_kept hb (by rw [Joins.cell_of_block hr0 1]; rfl)⟩
  have C0 := Lib.hid (szPicture_any u ss 1048576 W0 (by omega) (by omega) hN hz (HSL.out _ b0))
  have HZ2 : Hid (∀ (left : Int) W, 0 ≤ left → left ≤ 1048576 → Below w.heap.size w W → Calls Tryd.prog 5 #[.agg #[v], .int .i64 left] W (fun e w' => ∃ r : Int, e = .returned (.int .i64 r) ∧ r ≤ left ∧ -1 ≤ r ∧ (0 ≤ r → (xs.length : Int) ≤ left) ∧ Below W.heap.size W w')) := fun left W h0 h1 hb => szElement_any v xs left W h0 h1 hM (HSA.out _ hb)
  have B0 := Lib.hid b0
  have CS : Hid (xs.length ≤ 1048576 → ∀ x y W, Sl W x ss → SlS W y xs → Calls Tryd.prog 6 #[.agg #[x], .agg #[y], .agg #[.int .i64 X, .int .i64 Y]] W (SaysB (fitV ss xs X Y) W)) := fun hm x y W hx hy => spec_FitsAt x y ss xs X Y W hN hz hx hm hy
  have CI : Hid (xs.length ≤ 1048576 → ∀ x y W, Sl W x ss → SlS W y xs → ErrLen W → Calls Tryd.prog 10 #[.agg #[x], .agg #[y], .agg #[.int .i64 X, .int .i64 Y]] W (SaysB (fitV ss xs X Y) W)) := fun hm x y W hx hy hw => impl_FitsAt x y ss xs X Y W hN hz hx hm hwf hy hw
  have CE1 : Hid (∀ x y W, Sl W x ss → Sl W y ss → Calls Tryd.prog 11 #[.agg #[x], .agg #[y]] W (SaysB true W)) := fun x y W hx hy => by
    have := eqPicture_any x y ss ss W hN hN hx hy
    rwa [sameL_self] at this
  obtain ⟨ok, hok⟩ : ∃ b, fitV ss xs X Y = b := ⟨_, rfl⟩
  rw [hok] at CS CI
  have c0 := (HV0.out W0 (Below.refl _ _)).1
  have l0 : w.heap.size + 1 + 1 < W0.heap.size := by omega
  have HW := Lib.hid hW0
  clear hu hv he b0 hok hp0 hq0 hr0 hW0
  go_enter Tryd.func3, Tryd.ntmps3
  go_wp2_with fail
  rw [HW.out]
  refine C0.out.mono ?_
  rintro e w1 ⟨r, rfl, hr1, hr2, hr3, hb1⟩
  have V1 := Lib.hid hb1
  have B1 : Hid (Below w.heap.size w w1) := B0.out.trans (hb1.mono (by omega))
  have l1 : w.heap.size + 1 + 1 < w1.heap.size := Nat.lt_of_lt_of_le l0 hb1.size
  clear hb1 c0
  by_cases hr : r < 0
  · clear hr3
    go_wp2_with fail
    go_ret
    exact ⟨rfl, B1.out⟩
  · have hsm : ss.length ≤ 1048576 := by have := (hr3 (by omega)).1; omega
    have c1 := (HV0.out w1 V1.out).2.1
    clear hr3 hr2
    go_wp2_with fail
    refine (HZ2.out r _ (by omega) hr1 B1.out).mono ?_
    rintro e w2 ⟨r2, rfl, hq1, hq2, hq3, hb2⟩
    have V2 := Lib.hid (V1.out.trans (hb2.mono V1.out.size))
    have B2 := Lib.hid (B1.out.trans (hb2.mono B1.out.size))
    have l2 : w.heap.size + 1 + 1 < w2.heap.size := Nat.lt_of_lt_of_le l1 hb2.size
    clear hb2 c1
    by_cases hr' : r2 < 0
    · clear hq3
      go_wp2_with fail
      go_ret
      exact ⟨rfl, B2.out⟩
    · have hsm2 : xs.length ≤ 1048576 := by have := hq3 (by omega); omega
      have HX : Hid (∀ W, Below w2.heap.size w2 W → W.cell? ⟨w.heap.size, 0, none⟩ = some u ∧ W.cell? ⟨w.heap.size + 1, 0, none⟩ = some v ∧ W.cell? ⟨w.heap.size + 1 + 1, 0, none⟩ = some (.int .i64 X) ∧ W.cell? ⟨w.heap.size + 1 + 1, 1, none⟩ = some (.int .i64 Y)) := fun W hb => HV0.out W (V2.out.trans (hb.mono V2.out.size))
      have HT1 : Hid (∀ W, Below w2.heap.size w2 W → Calls Tryd.prog 7 #[.agg #[u]] W (TookPic W ss)) := fun W hb => toPicture_any u ss W hsm (HSL.out _ (B2.out.trans (hb.mono B2.out.size)))
      have HT2 : Hid (∀ W, Below w2.heap.size w2 W → Calls Tryd.prog 8 #[.agg #[v]] W (TookEl W xs)) := fun W hb => toElement_any v xs W hsm2 (HSA.out _ (B2.out.trans (hb.mono B2.out.size)))
      have HT3 : Hid (∀ W, Calls Tryd.prog 9 #[.agg #[.int .i64 X, .int .i64 Y]] W (fun e w' => e = .returned (.agg #[.int .i64 X, .int .i64 Y]) ∧ Below W.heap.size W w')) := fun W => toSpot_any X Y W
      have CSm := Lib.hid (CS.out hsm2)
      have CIm := Lib.hid (CI.out hsm2)
      clear hq3 hq2 hq1 hr1 CS CI
      go_wp2_with fail
      go_region_held3 (fun w' => w'.cell? ⟨w.heap.size, 0, none⟩ = some u ∧ w'.cell? ⟨w.heap.size + 1, 0, none⟩ = some v ∧ w'.cell? ⟨w.heap.size + 1 + 1, 0, none⟩ = some (.int .i64 X) ∧ w'.cell? ⟨w.heap.size + 1 + 1, 1, none⟩ = some (.int .i64 Y))
        (first | exact HX.out _ (Below.refl _ _) | exact HX.out _ (Below.refl _ _).drew | exact HX.out _ ((Below.refl _ _).drew.trans hb3) | exact HX.out _ (((Below.refl _ _).drew.trans hb3).trans (hb4.mono hb3.size)) | exact HX.out _ ((((Below.refl _ _).drew.trans hb3).trans (hb4.mono hb3.size)).trans (hb5.mono (Nat.le_trans hb3.size hb4.size))) | exact HX.out _ (((((Below.refl _ _).drew.trans hb3).trans (hb4.mono hb3.size)).trans (hb5.mono (Nat.le_trans hb3.size hb4.size))).trans (hb6.mono (Nat.le_trans (Nat.le_trans hb3.size hb4.size) hb5.size))))
        (first | (go_at_call 7; refine (HT1.out _ (Below.refl _ _).drew).mono ?_; rintro e w3 ⟨g3, cap3, rfl, hown3, hb3⟩) | (go_at_call 8; refine (HT2.out _ ((Below.refl _ _).drew.trans hb3)).mono ?_; rintro e w4 ⟨g4, cap4, rfl, hown4, hb4⟩) | (go_at_call 9; refine (HT3.out _).mono ?_; rintro e w5 ⟨rfl, hb5⟩) | (go_at_call 6; refine (CSm.out _ _ _ ((hown3.sl.below hb4).below hb5) ((OwnS.sl hown4).below hb5)).mono ?_; rintro e w6 ⟨rfl, hb6⟩))
      have hb26 := ((((Below.refl w2.heap.size w2).drew.trans hb3).trans (hb4.mono hb3.size)).trans (hb5.mono (Nat.le_trans hb3.size hb4.size))).trans (hb6.mono (Nat.le_trans (Nat.le_trans hb3.size hb4.size) hb5.size))
      have V6 := Lib.hid (V2.out.trans (hb26.mono V2.out.size))
      have B6 := Lib.hid (B2.out.trans (hb26.mono B2.out.size))
      have l6 : w.heap.size + 1 + 1 < w6.heap.size := Nat.lt_of_lt_of_le l2 hb26.size
      have c6 := (HV0.out w6 V6.out).1
      clear hb3 hb4 hb5 hb6 hb26 hown3 hown4 HX HT1 HT2
      go_wp2_with fail
      refine (toPicture_any u ss _ hsm (HSL.out _ B6.out)).mono ?_
      rintro e w7 ⟨g7, cap7, rfl, hown7, hb7⟩
      have ha7 := Joins.below_alloc1 w7 (.cells #[.slice (some ⟨g7, 0, none⟩) ss.length cap7] 33)
      have hba := hb7.trans (ha7.mono hb7.size)
      have hlast := heap_alloc_last w7 (.cells #[.slice (some ⟨g7, 0, none⟩) ss.length cap7] 33)
      have hsl7 := hown7.sl.below ha7
      have HC1 : Hid (∀ W, Below (w7.alloc (.cells #[.slice (some ⟨g7, 0, none⟩) ss.length cap7] 33)).heap.size (w7.alloc (.cells #[.slice (some ⟨g7, 0, none⟩) ss.length cap7] 33)) W → W.cell? ⟨w7.heap.size, 0, none⟩ = some (.slice (some ⟨g7, 0, none⟩) ss.length cap7) ∧ Sl W (.slice (some ⟨g7, 0, none⟩) ss.length cap7) ss) := fun W hb => ⟨cell_kept hb (cell_of_one hlast), hsl7.below hb⟩
      have V7 := Lib.hid (V6.out.trans (hba.mono V6.out.size))
      have B7 := Lib.hid (B6.out.trans (hba.mono B6.out.size))
      have l7 : w7.heap.size < (w7.alloc (.cells #[.slice (some ⟨g7, 0, none⟩) ss.length cap7] 33)).heap.size := (Array.getElem?_eq_some_iff.1 hlast).1
      have l7' : w.heap.size + 1 + 1 < (w7.alloc (.cells #[.slice (some ⟨g7, 0, none⟩) ss.length cap7] 33)).heap.size := Nat.lt_of_lt_of_le l6 hba.size
      have c7 := (HV0.out (w7.alloc (.cells #[.slice (some ⟨g7, 0, none⟩) ss.length cap7] 33)) V7.out).2.1
      clear hb7 ha7 hba hlast hsl7 hown7 c6
      go_wp2_with fail
      refine (toElement_any v xs _ hsm2 (HSA.out _ B7.out)).mono ?_
      rintro e w8 ⟨g8, cap8, rfl, hown8, hb8⟩
      have ha8 := Joins.below_alloc1 w8 (.cells #[.slice (some ⟨g8, 0, none⟩) xs.length cap8] 37)
      have hba := hb8.trans (ha8.mono hb8.size)
      have hlast := heap_alloc_last w8 (.cells #[.slice (some ⟨g8, 0, none⟩) xs.length cap8] 37)
      have hsl8 := (OwnS.sl hown8).below ha8
      have HC2 : Hid (∀ W, Below (w8.alloc (.cells #[.slice (some ⟨g8, 0, none⟩) xs.length cap8] 37)).heap.size (w8.alloc (.cells #[.slice (some ⟨g8, 0, none⟩) xs.length cap8] 37)) W → W.cell? ⟨w8.heap.size, 0, none⟩ = some (.slice (some ⟨g8, 0, none⟩) xs.length cap8) ∧ SlS W (.slice (some ⟨g8, 0, none⟩) xs.length cap8) xs) := fun W hb => ⟨cell_kept hb (cell_of_one hlast), hsl8.below hb⟩
      have V8 := Lib.hid (V7.out.trans (hba.mono V7.out.size))
      have B8 := Lib.hid (B7.out.trans (hba.mono B7.out.size))
      have Q8 := Lib.hid hba
      have l8 : w8.heap.size < (w8.alloc (.cells #[.slice (some ⟨g8, 0, none⟩) xs.length cap8] 37)).heap.size := (Array.getElem?_eq_some_iff.1 hlast).1
      have l8' : w.heap.size + 1 + 1 < (w8.alloc (.cells #[.slice (some ⟨g8, 0, none⟩) xs.length cap8] 37)).heap.size := Nat.lt_of_lt_of_le l7' hba.size
      have l8'' : w7.heap.size < (w8.alloc (.cells #[.slice (some ⟨g8, 0, none⟩) xs.length cap8] 37)).heap.size := Nat.lt_of_lt_of_le l7 hba.size
      have HX : Hid (∀ W, Below (w8.alloc (.cells #[.slice (some ⟨g8, 0, none⟩) xs.length cap8] 37)).heap.size (w8.alloc (.cells #[.slice (some ⟨g8, 0, none⟩) xs.length cap8] 37)) W → W.cell? ⟨w7.heap.size, 0, none⟩ = some (.slice (some ⟨g7, 0, none⟩) ss.length cap7) ∧ W.cell? ⟨w8.heap.size, 0, none⟩ = some (.slice (some ⟨g8, 0, none⟩) xs.length cap8) ∧ W.cell? ⟨w.heap.size + 1 + 1, 0, none⟩ = some (.int .i64 X) ∧ W.cell? ⟨w.heap.size + 1 + 1, 1, none⟩ = some (.int .i64 Y)) := fun W hb => ⟨(HC1.out W (Q8.out.trans (hb.mono Q8.out.size))).1, (HC2.out W hb).1, (HV0.out W (V8.out.trans (hb.mono V8.out.size))).2.2⟩
      have HCI : Hid (∀ W, Below (w8.alloc (.cells #[.slice (some ⟨g8, 0, none⟩) xs.length cap8] 37)).heap.size (w8.alloc (.cells #[.slice (some ⟨g8, 0, none⟩) xs.length cap8] 37)) W → Calls Tryd.prog 10 #[.agg #[.slice (some ⟨g7, 0, none⟩) ss.length cap7], .agg #[.slice (some ⟨g8, 0, none⟩) xs.length cap8], .agg #[.int .i64 X, .int .i64 Y]] W (SaysB ok W)) := fun W hb => CIm.out _ _ W (HC1.out W (Q8.out.trans (hb.mono Q8.out.size))).2 (HC2.out W hb).2 (HEL.out W (B8.out.trans (hb.mono B8.out.size)))
      clear hb8 ha8 hba hlast hsl8 hown8 c7
      go_wp2_with fail
      go_region_held3 (fun w' => w'.cell? ⟨w7.heap.size, 0, none⟩ = some (.slice (some ⟨g7, 0, none⟩) ss.length cap7) ∧ w'.cell? ⟨w8.heap.size, 0, none⟩ = some (.slice (some ⟨g8, 0, none⟩) xs.length cap8) ∧ w'.cell? ⟨w.heap.size + 1 + 1, 0, none⟩ = some (.int .i64 X) ∧ w'.cell? ⟨w.heap.size + 1 + 1, 1, none⟩ = some (.int .i64 Y))
        (first | exact HX.out _ (Below.refl _ _) | exact HX.out _ (Below.refl _ _).drew | exact HX.out _ ((Below.refl _ _).drew.trans hb9) | exact HX.out _ (((Below.refl _ _).drew.trans hb9).trans (hb10.mono hb9.size)))
        (first | (go_at_call 9; refine (HT3.out _).mono ?_; rintro e w9 ⟨rfl, hb9⟩) | (go_at_call 10; refine (HCI.out _ ((Below.refl _ _).drew.trans hb9)).mono ?_; rintro e w10 ⟨rfl, hb10⟩))
      have hb810 := ((Below.refl (w8.alloc (.cells #[.slice (some ⟨g8, 0, none⟩) xs.length cap8] 37)).heap.size (w8.alloc (.cells #[.slice (some ⟨g8, 0, none⟩) xs.length cap8] 37))).drew.trans hb9).trans (hb10.mono hb9.size)
      have V10 := Lib.hid (V8.out.trans (hb810.mono V8.out.size))
      have B10 := Lib.hid (B8.out.trans (hb810.mono B8.out.size))
      have Q10 := Lib.hid hb810
      clear hb9 hb10 hb810 HX HCI
      have HX : Hid (∀ W, Below w10.heap.size w10 W → W.cell? ⟨w.heap.size, 0, none⟩ = some u ∧ W.cell? ⟨w7.heap.size, 0, none⟩ = some (.slice (some ⟨g7, 0, none⟩) ss.length cap7)) := fun W hb => ⟨(HV0.out W (V10.out.trans (hb.mono V10.out.size))).1, (HC1.out W (Q8.out.trans ((Q10.out.trans (hb.mono Q10.out.size)).mono Q8.out.size))).1⟩
      have HT1 : Hid (∀ W, Below w10.heap.size w10 W → Calls Tryd.prog 7 #[.agg #[u]] W (TookPic W ss)) := fun W hb => toPicture_any u ss W hsm (HSL.out _ (B10.out.trans (hb.mono B10.out.size)))
      have HE1 : Hid (∀ W x, Below w10.heap.size w10 W → Sl W x ss → Calls Tryd.prog 11 #[.agg #[.slice (some ⟨g7, 0, none⟩) ss.length cap7], .agg #[x]] W (SaysB true W)) := fun W x hb hx => CE1.out _ x W (HC1.out W (Q8.out.trans ((Q10.out.trans (hb.mono Q10.out.size)).mono Q8.out.size))).2 hx
      go_wp2_with fail
      go_region_held3 (fun w' => w'.cell? ⟨w.heap.size, 0, none⟩ = some u ∧ w'.cell? ⟨w7.heap.size, 0, none⟩ = some (.slice (some ⟨g7, 0, none⟩) ss.length cap7))
        (first | exact HX.out _ (Below.refl _ _) | exact HX.out _ (Below.refl _ _).drew | exact HX.out _ ((Below.refl _ _).drew.trans hb11) | exact HX.out _ (((Below.refl _ _).drew.trans hb11).trans (hb12.mono hb11.size)))
        (first | (go_at_call 7; refine (HT1.out _ (Below.refl _ _).drew).mono ?_; rintro e w11 ⟨g11, cap11, rfl, hown11, hb11⟩) | (go_at_call 11; refine (HE1.out _ _ ((Below.refl _ _).drew.trans hb11) hown11.sl).mono ?_; rintro e w12 ⟨rfl, hb12⟩))
      have hb1012 := ((Below.refl w10.heap.size w10).drew.trans hb11).trans (hb12.mono hb11.size)
      have V12 := Lib.hid (V10.out.trans (hb1012.mono V10.out.size))
      have B12 := Lib.hid (B10.out.trans (hb1012.mono B10.out.size))
      have Q12 := Lib.hid (Q10.out.trans (hb1012.mono Q10.out.size))
      clear hb11 hb12 hb1012 hown11 HX HT1 HE1
      have HX : Hid (∀ W, Below w12.heap.size w12 W → W.cell? ⟨w.heap.size + 1, 0, none⟩ = some v ∧ W.cell? ⟨w8.heap.size, 0, none⟩ = some (.slice (some ⟨g8, 0, none⟩) xs.length cap8)) := fun W hb => ⟨(HV0.out W (V12.out.trans (hb.mono V12.out.size))).2.1, (HC2.out W (Q12.out.trans (hb.mono Q12.out.size))).1⟩
      have HT2 : Hid (∀ W, Below w12.heap.size w12 W → Calls Tryd.prog 8 #[.agg #[v]] W (TookEl W xs)) := fun W hb => toElement_any v xs W hsm2 (HSA.out _ (B12.out.trans (hb.mono B12.out.size)))
      have HE2 : Hid (∀ W x, Below w12.heap.size w12 W → SlS W x xs → Calls Tryd.prog 12 #[.agg #[.slice (some ⟨g8, 0, none⟩) xs.length cap8], .agg #[x]] W (SaysB true W)) := fun W x hb hx => eqElement_same _ x xs W hsm2 (HC2.out W (Q12.out.trans (hb.mono Q12.out.size))).2 hx
      go_wp2_with fail
      go_region_held3 (fun w' => w'.cell? ⟨w.heap.size + 1, 0, none⟩ = some v ∧ w'.cell? ⟨w8.heap.size, 0, none⟩ = some (.slice (some ⟨g8, 0, none⟩) xs.length cap8))
        (first | exact HX.out _ (Below.refl _ _) | exact HX.out _ (Below.refl _ _).drew | exact HX.out _ ((Below.refl _ _).drew.trans hb13) | exact HX.out _ (((Below.refl _ _).drew.trans hb13).trans (hb14.mono hb13.size)))
        (first | (go_at_call 8; refine (HT2.out _ (Below.refl _ _).drew).mono ?_; rintro e w13 ⟨g13, cap13, rfl, hown13, hb13⟩) | (go_at_call 12; refine (HE2.out _ _ ((Below.refl _ _).drew.trans hb13) (OwnS.sl hown13)).mono ?_; rintro e w14 ⟨rfl, hb14⟩))
      have B14 : Hid (Below w.heap.size w w14) := B12.out.trans ((((Below.refl w12.heap.size w12).drew.trans hb13).trans (hb14.mono hb13.size)).mono B12.out.size)
      clear hb13 hb14 hown13
      go_wp2
      go_ret
      exact ⟨rfl, B14.out⟩
end Go.Proofs.YtelakopkpmkdcaaDoor
