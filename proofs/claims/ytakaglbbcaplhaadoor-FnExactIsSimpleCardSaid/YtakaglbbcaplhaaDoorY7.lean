/- Contracts of single functions, and plain lemmas, on which the exact laws of this seat rest; each holds under the conditions that it states. -/
import Derived.Test.YtakaglbbcaplhaaDoorY1
import Derived.Test.YtakaglbbcaplhaaDoorY5
import Derived.Test.YtakaglbbcaplhaaDoorY6
import Derived.Test.YtakaglbbcaplhaaDoorQh
import Derived.Test.YtakaglbbcaplhaaDoorSz
namespace Go.Proofs.YtakaglbbcaplhaaDoor
set_option linter.unusedVariables false
set_option linter.unusedSimpArgs false
open Go.RowKit

noncomputable def siV (ss : List ByteArray) (x y : Int) (e8 : Bool) : Bool := validB ss && (pixI ss x y && simN (pixI ss) x y e8)

set_option maxHeartbeats 4000000 in
set_option maxRecDepth 100000 in
theorem spec_IsSimple (v : Value) (ss : List ByteArray) (x y : Int) (e8 : Bool) (w : World) (hN : ss.length ≤ maxLen) (hz : ∀ s ∈ ss, s.size ≤ maxLen) (hv : Sl w v ss) :
    Calls Tryd.prog 16 #[.agg #[v], .agg #[.int .i64 x, .int .i64 y], .bool e8] w (SaysB (siV ss x y e8) w) := by
  have hb0 := Joins.below_alloc2 w (.cells #[v] 29) (.cells #[.int .i64 x, .int .i64 y] 31)
  have hc0 : ((w.alloc (.cells #[v] 29)).alloc (.cells #[.int .i64 x, .int .i64 y] 31)).cell? ⟨w.heap.size, 0, none⟩ = some v := by
    rw [Joins.cell_of_block ((Below.heap_alloc _ _ _ (by simp)).trans (heap_alloc_last w (.cells #[v] 29)))]; rfl
  have hA := heap_alloc2_new w (.cells #[v] 29) (.cells #[.int .i64 x, .int .i64 y] 31)
  have C := Lib.hid (l01Is_any w.heap.size 0 v ss _ hc0 (hv.below hb0) hN hz)
  have HR : Hid (siV ss x y e8 = (validB ss && (pixI ss x y && simN (pixI ss) x y e8))) := rfl
  obtain ⟨W0, hW0⟩ : ∃ W0, (w.alloc (.cells #[v] 29)).alloc (.cells #[.int .i64 x, .int .i64 y] 31) = W0 := ⟨_, rfl⟩
  have HW0 := Lib.hid hW0
  rw [hW0] at hb0 hc0 C hA
  have HB0 := Lib.hid hb0
  have HS : Hid (∀ W, Below W0.heap.size W0 W → W.cell? ⟨w.heap.size + 1, 0, none⟩ = some (.int .i64 x) ∧ W.cell? ⟨w.heap.size + 1, 1, none⟩ = some (.int .i64 y)) := fun W hb => by
    have h := (hb.block _ (Array.getElem?_eq_some_iff.1 hA).1).trans hA
    exact ⟨by rw [Joins.cell_of_block h]; rfl, by rw [Joins.cell_of_block h]; rfl⟩
  have HP : Hid (validB ss = true → ∀ W, Below W0.heap.size W0 W → PicAt W w.heap.size 0 ss) := fun hok W hb => ⟨hok, v, cell_kept hb hc0, (hv.below hb0).below hb⟩
  clear hv hN hz hb0 hc0 hA hW0
  cases hok : validB ss with
  | false =>
    have hr : Hid (siV ss x y e8 = false) := by show _ = _; rw [HR.out, hok]; rfl
    have HOk := Lib.hid hok
    clear hok HR HP
    go_enter Tryd.func16, Tryd.ntmps16
    go_wp2_with fail
    rw [HW0.out]
    refine C.out.mono ?_
    rintro e w1 ⟨rfl, hb⟩
    rw [HOk.out]
    have HB := Lib.hid (HB0.out.trans (hb.mono HB0.out.size))
    clear hb
    go_wp2
    go_ret
    exact ⟨ret_bool (a := false) hr.out.symm, HB.out⟩
  | true =>
    have HPA := Lib.hid (HP.out hok)
    have HOk := Lib.hid hok
    obtain ⟨q, hq⟩ : ∃ q, pixI ss x y = q := ⟨_, rfl⟩
    rw [hok, hq, Bool.true_and] at HR
    have hin := fun h => pixI_inW ss x y h
    have V := vp_of hok
    have hn16 := V.n16
    have hw16 := V.w16
    rw [hq] at hin
    have HQ := Lib.hid hq
    clear hok HP V hq
    cases q with
    | false =>
      have hr : Hid (siV ss x y e8 = false) := HR.out
      clear HR hin
      go_enter Tryd.func16, Tryd.ntmps16
      go_wp2_with fail
      rw [HW0.out]
      refine C.out.mono ?_
      rintro e w1 ⟨rfl, hb⟩
      rw [HOk.out]
      have c0 := (HS.out _ hb).1
      have c1 := (HS.out _ hb).2
      have HPA1 := Lib.hid (HPA.out _ hb)
      have HB := Lib.hid (HB0.out.trans (hb.mono HB0.out.size))
      clear hb
      go_wp2_with fail
      refine (l01Black_any _ _ ss x y _ HPA1.out).mono ?_
      rintro e w2 ⟨rfl, rfl⟩
      rw [HQ.out]
      go_wp2
      go_ret
      exact ⟨ret_bool (a := false) hr.out.symm, HB.out⟩
    | true =>
      have hin2 := hin rfl
      have CSm := Lib.hid (fun W h => l05Simple_any w.heap.size 0 ss x y e8 W (by omega) (by omega) h)
      rw [Bool.true_and] at HR
      rw [← HR.out] at CSm
      clear hin hin2
      go_enter Tryd.func16, Tryd.ntmps16
      go_wp2_with fail
      rw [HW0.out]
      refine C.out.mono ?_
      rintro e w1 ⟨rfl, hb⟩
      rw [HOk.out]
      have c0 := (HS.out _ hb).1
      have c1 := (HS.out _ hb).2
      have HPA1 := Lib.hid (HPA.out _ hb)
      have HB := Lib.hid (HB0.out.trans (hb.mono HB0.out.size))
      clear hb
      go_wp2_with fail
      refine (l01Black_any _ _ ss x y _ HPA1.out).mono ?_
      rintro e w2 ⟨rfl, rfl⟩
      rw [HQ.out]
      go_wp2_with fail
      refine (CSm.out _ HPA1.out).mono ?_
      rintro e w2 ⟨rfl, hb2⟩
      have HB2 := Lib.hid (HB.out.trans (hb2.mono HB.out.size))
      clear hb2
      go_wp2
      go_ret
      exact ⟨rfl, HB2.out⟩
end Go.Proofs.YtakaglbbcaplhaaDoor

/- Contracts of single functions, and plain lemmas, on which the exact laws of this seat rest; each holds under the conditions that it states. -/
namespace Go.Proofs.YtakaglbbcaplhaaDoor
set_option linter.unusedVariables false
set_option linter.unusedSimpArgs false
open Go.RowKit

theorem si_eq (ss : List ByteArray) (x y : Int) (e8 : Bool) : siV ss x y e8 = siI ss x y e8 := by
  unfold siV siI
  rw [simN_eq]

set_option maxHeartbeats 4000000 in
set_option maxRecDepth 100000 in
theorem law_IsSimple (u : Value) (ss : List ByteArray) (X Y : Int) (e8 : Bool) (w : World) (hN : ss.length ≤ maxLen) (hz : ∀ s ∈ ss, s.size ≤ maxLen) (hu : Sl w u ss) (he : ErrLen w) (hR : RingP w) :
    Calls Tryd.prog 3 #[.agg #[u], .agg #[.int .i64 X, .int .i64 Y], .bool e8] w fun e w' => e = .returned (.bool true) ∧ Below w.heap.size w w' := by
  have HSL : Hid (∀ W, Below w.heap.size w W → Sl W u ss) := fun W hb => hu.below hb
  have HEL : Hid (∀ W, Below w.heap.size w W → ErrLen W ∧ RingP W) := fun W hb => ⟨he.below hb, hR.below hb⟩
  obtain ⟨W0, hW0⟩ : ∃ W0, ((w.alloc (.cells #[u] 24)).alloc (.cells #[.int .i64 X, .int .i64 Y] 26)) = W0 := ⟨_, rfl⟩
  have b0 : Below w.heap.size w W0 := by rw [← hW0]; exact Joins.below_alloc2 _ _ _
  have hs0 : W0.heap.size = w.heap.size + 1 + 1 := by rw [← hW0]; simp
  have hp0 : W0.heap[w.heap.size]? = some (.cells #[u] 24 (0, 0)) := by
    rw [← hW0, Below.heap_alloc _ _ _ (by simp)]; exact heap_alloc_last w _
  have hr0 : W0.heap[w.heap.size + 1]? = some (.cells #[.int .i64 X, .int .i64 Y] 26 (0, 0)) := by
    rw [← hW0]
    have := heap_alloc_last (w.alloc (.cells #[u] 24)) (.cells #[.int .i64 X, .int .i64 Y] 26)
    rwa [World.size_alloc] at this
  have HV0 : Hid (∀ W, Below W0.heap.size W0 W → W.cell? ⟨w.heap.size, 0, none⟩ = some u ∧ W.cell? ⟨w.heap.size + 1, 0, none⟩ = some (.int .i64 X) ∧ W.cell? ⟨w.heap.size + 1, 1, none⟩ = some (.int .i64 Y)) := fun W hb =>
    ⟨cell_kept hb (cell_of_one hp0), cell_kept hb (by rw [Joins.cell_of_block hr0 0]; rfl), cell_kept hb (by rw [Joins.cell_of_block hr0 1]; rfl)⟩
  have C0 := Lib.hid (szPicture_any u ss 1048576 W0 (by omega) (by omega) hN hz (HSL.out _ b0))
  have B0 := Lib.hid b0
  have CS : Hid (∀ x W, Sl W x ss → Calls Tryd.prog 16 #[.agg #[x], .agg #[.int .i64 X, .int .i64 Y], .bool e8] W (SaysB (siI ss X Y e8) W)) := fun x W hx => by
    rw [← si_eq]
    exact spec_IsSimple x ss X Y e8 W hN hz hx
  have CI : Hid (∀ x W, Sl W x ss → ErrLen W ∧ RingP W → Calls Tryd.prog 19 #[.agg #[x], .agg #[.int .i64 X, .int .i64 Y], .bool e8] W (SaysB (siI ss X Y e8) W)) := fun x W hx hw => impl_IsSimple x ss X Y e8 W hN hz hx hw.1 hw.2
  have CE1 : Hid (∀ x y W, Sl W x ss → Sl W y ss → Calls Tryd.prog 20 #[.agg #[x], .agg #[y]] W (SaysB true W)) := fun x y W hx hy => by
    have := eqPicture_any x y ss ss W hN hN hx hy
    rwa [sameL_self] at this
  obtain ⟨ok, hok⟩ : ∃ b, siI ss X Y e8 = b := ⟨_, rfl⟩
  rw [hok] at CS CI
  have c0 := (HV0.out W0 (Below.refl _ _)).1
  have l0 : w.heap.size + 1 < W0.heap.size := by omega
  have HW := Lib.hid hW0
  clear hu he hR b0 hok hp0 hr0 hW0
  go_enter Tryd.func3, Tryd.ntmps3
  go_wp2_with fail
  rw [HW.out]
  refine C0.out.mono ?_
  rintro e w1 ⟨r, rfl, hr1, hr2, hr3, hb1⟩
  have V1 := Lib.hid hb1
  have B1 : Hid (Below w.heap.size w w1) := B0.out.trans (hb1.mono (by omega))
  have l1 : w.heap.size + 1 < w1.heap.size := Nat.lt_of_lt_of_le l0 hb1.size
  clear hb1 c0
  by_cases hr : r < 0
  · clear hr3
    go_wp2_with fail
    go_ret
    exact ⟨rfl, B1.out⟩
  · have hsm : ss.length ≤ 1048576 := by have := (hr3 (by omega)).1; omega
    have HX : Hid (∀ W, Below w1.heap.size w1 W → W.cell? ⟨w.heap.size, 0, none⟩ = some u ∧ W.cell? ⟨w.heap.size + 1, 0, none⟩ = some (.int .i64 X) ∧ W.cell? ⟨w.heap.size + 1, 1, none⟩ = some (.int .i64 Y)) := fun W hb => HV0.out W (V1.out.trans (hb.mono V1.out.size))
    have HT1 : Hid (∀ W, Below w1.heap.size w1 W → Calls Tryd.prog 17 #[.agg #[u]] W (TookPic W ss)) := fun W hb => toPicture_any u ss W hsm (HSL.out _ (B1.out.trans (hb.mono B1.out.size)))
    have HT3 : Hid (∀ W, Calls Tryd.prog 18 #[.agg #[.int .i64 X, .int .i64 Y]] W (fun e w' => e = .returned (.agg #[.int .i64 X, .int .i64 Y]) ∧ Below W.heap.size W w')) := fun W => toSpot_any X Y W
    clear hr3 hr2 hr1
    go_wp2_with fail
    go_region_held3 (fun w' => w'.cell? ⟨w.heap.size, 0, none⟩ = some u ∧ w'.cell? ⟨w.heap.size + 1, 0, none⟩ = some (.int .i64 X) ∧ w'.cell? ⟨w.heap.size + 1, 1, none⟩ = some (.int .i64 Y))
      (first | exact HX.out _ (Below.refl _ _) | exact HX.out _ (Below.refl _ _).drew | exact HX.out _ ((Below.refl _ _).drew.trans hb3) | exact HX.out _ (((Below.refl _ _).drew.trans hb3).trans (hb5.mono hb3.size)) | exact HX.out _ ((((Below.refl _ _).drew.trans hb3).trans (hb5.mono hb3.size)).trans (hb6.mono (Nat.le_trans hb3.size hb5.size))))
      (first | (go_at_call 17; refine (HT1.out _ (Below.refl _ _).drew).mono ?_; rintro e w3 ⟨g3, cap3, rfl, hown3, hb3⟩) | (go_at_call 18; refine (HT3.out _).mono ?_; rintro e w5 ⟨rfl, hb5⟩) | (go_at_call 16; refine (CS.out _ _ (hown3.sl.below hb5)).mono ?_; rintro e w6 ⟨rfl, hb6⟩))
    have hb26 := (((Below.refl w1.heap.size w1).drew.trans hb3).trans (hb5.mono hb3.size)).trans (hb6.mono (Nat.le_trans hb3.size hb5.size))
    have V6 := Lib.hid (V1.out.trans (hb26.mono V1.out.size))
    have B6 := Lib.hid (B1.out.trans (hb26.mono B1.out.size))
    have l6 : w.heap.size + 1 < w6.heap.size := Nat.lt_of_lt_of_le l1 hb26.size
    have c6 := (HV0.out w6 V6.out).1
    clear hb3 hb5 hb6 hb26 hown3 HX HT1 CS
    go_wp2_with fail
    refine (toPicture_any u ss _ hsm (HSL.out _ B6.out)).mono ?_
    rintro e w7 ⟨g7, cap7, rfl, hown7, hb7⟩
    have ha7 := Joins.below_alloc1 w7 (.cells #[.slice (some ⟨g7, 0, none⟩) ss.length cap7] 29)
    have hba := hb7.trans (ha7.mono hb7.size)
    have hlast := heap_alloc_last w7 (.cells #[.slice (some ⟨g7, 0, none⟩) ss.length cap7] 29)
    have hsl7 := hown7.sl.below ha7
    have HC1 : Hid (∀ W, Below (w7.alloc (.cells #[.slice (some ⟨g7, 0, none⟩) ss.length cap7] 29)).heap.size (w7.alloc (.cells #[.slice (some ⟨g7, 0, none⟩) ss.length cap7] 29)) W → W.cell? ⟨w7.heap.size, 0, none⟩ = some (.slice (some ⟨g7, 0, none⟩) ss.length cap7) ∧ Sl W (.slice (some ⟨g7, 0, none⟩) ss.length cap7) ss) := fun W hb => ⟨cell_kept hb (cell_of_one hlast), hsl7.below hb⟩
    have V7 := Lib.hid (V6.out.trans (hba.mono V6.out.size))
    have B7 := Lib.hid (B6.out.trans (hba.mono B6.out.size))
    have l7 : w7.heap.size < (w7.alloc (.cells #[.slice (some ⟨g7, 0, none⟩) ss.length cap7] 29)).heap.size := (Array.getElem?_eq_some_iff.1 hlast).1
    have l7' : w.heap.size + 1 < (w7.alloc (.cells #[.slice (some ⟨g7, 0, none⟩) ss.length cap7] 29)).heap.size := Nat.lt_of_lt_of_le l6 hba.size
    have HX : Hid (∀ W, Below (w7.alloc (.cells #[.slice (some ⟨g7, 0, none⟩) ss.length cap7] 29)).heap.size (w7.alloc (.cells #[.slice (some ⟨g7, 0, none⟩) ss.length cap7] 29)) W → W.cell? ⟨w7.heap.size, 0, none⟩ = some (.slice (some ⟨g7, 0, none⟩) ss.length cap7) ∧ W.cell? ⟨w.heap.size + 1, 0, none⟩ = some (.int .i64 X) ∧ W.cell? ⟨w.heap.size + 1, 1, none⟩ = some (.int .i64 Y)) := fun W hb => ⟨(HC1.out W hb).1, (HV0.out W (V7.out.trans (hb.mono V7.out.size))).2⟩
    have HCI : Hid (∀ W, Below (w7.alloc (.cells #[.slice (some ⟨g7, 0, none⟩) ss.length cap7] 29)).heap.size (w7.alloc (.cells #[.slice (some ⟨g7, 0, none⟩) ss.length cap7] 29)) W → Calls Tryd.prog 19 #[.agg #[.slice (some ⟨g7, 0, none⟩) ss.length cap7], .agg #[.int .i64 X, .int .i64 Y], .bool e8] W (SaysB ok W)) := fun W hb => CI.out _ W (HC1.out W hb).2 (HEL.out W (B7.out.trans (hb.mono B7.out.size)))
    clear hb7 ha7 hba hlast hsl7 hown7 c6 CI
    go_wp2_with fail
    go_region_held3 (fun w' => w'.cell? ⟨w7.heap.size, 0, none⟩ = some (.slice (some ⟨g7, 0, none⟩) ss.length cap7) ∧ w'.cell? ⟨w.heap.size + 1, 0, none⟩ = some (.int .i64 X) ∧ w'.cell? ⟨w.heap.size + 1, 1, none⟩ = some (.int .i64 Y))
      (first | exact HX.out _ (Below.refl _ _) | exact HX.out _ (Below.refl _ _).drew | exact HX.out _ ((Below.refl _ _).drew.trans hb9) | exact HX.out _ (((Below.refl _ _).drew.trans hb9).trans (hb10.mono hb9.size)))
      (first | (go_at_call 18; refine (HT3.out _).mono ?_; rintro e w9 ⟨rfl, hb9⟩) | (go_at_call 19; refine (HCI.out _ ((Below.refl _ _).drew.trans hb9)).mono ?_; rintro e w10 ⟨rfl, hb10⟩))
    have hb810 := ((Below.refl (w7.alloc (.cells #[.slice (some ⟨g7, 0, none⟩) ss.length cap7] 29)).heap.size (w7.alloc (.cells #[.slice (some ⟨g7, 0, none⟩) ss.length cap7] 29))).drew.trans hb9).trans (hb10.mono hb9.size)
    have V10 := Lib.hid (V7.out.trans (hb810.mono V7.out.size))
    have B10 := Lib.hid (B7.out.trans (hb810.mono B7.out.size))
    have Q10 := Lib.hid hb810
    clear hb9 hb10 hb810 HX HCI HT3
    have HX : Hid (∀ W, Below w10.heap.size w10 W → W.cell? ⟨w.heap.size, 0, none⟩ = some u ∧ W.cell? ⟨w7.heap.size, 0, none⟩ = some (.slice (some ⟨g7, 0, none⟩) ss.length cap7)) := fun W hb => ⟨(HV0.out W (V10.out.trans (hb.mono V10.out.size))).1, (HC1.out W (Q10.out.trans (hb.mono Q10.out.size))).1⟩
    have HT1 : Hid (∀ W, Below w10.heap.size w10 W → Calls Tryd.prog 17 #[.agg #[u]] W (TookPic W ss)) := fun W hb => toPicture_any u ss W hsm (HSL.out _ (B10.out.trans (hb.mono B10.out.size)))
    have HE1 : Hid (∀ W x, Below w10.heap.size w10 W → Sl W x ss → Calls Tryd.prog 20 #[.agg #[.slice (some ⟨g7, 0, none⟩) ss.length cap7], .agg #[x]] W (SaysB true W)) := fun W x hb hx => CE1.out _ x W (HC1.out W (Q10.out.trans (hb.mono Q10.out.size))).2 hx
    go_wp2_with fail
    go_region_held3 (fun w' => w'.cell? ⟨w.heap.size, 0, none⟩ = some u ∧ w'.cell? ⟨w7.heap.size, 0, none⟩ = some (.slice (some ⟨g7, 0, none⟩) ss.length cap7))
      (first | exact HX.out _ (Below.refl _ _) | exact HX.out _ (Below.refl _ _).drew | exact HX.out _ ((Below.refl _ _).drew.trans hb11) | exact HX.out _ (((Below.refl _ _).drew.trans hb11).trans (hb12.mono hb11.size)))
      (first | (go_at_call 17; refine (HT1.out _ (Below.refl _ _).drew).mono ?_; rintro e w11 ⟨g11, cap11, rfl, hown11, hb11⟩) | (go_at_call 20; refine (HE1.out _ _ ((Below.refl _ _).drew.trans hb11) hown11.sl).mono ?_; rintro e w12 ⟨rfl, hb12⟩))
    have B12 : Hid (Below w.heap.size w w12) := B10.out.trans ((((Below.refl w10.heap.size w10).drew.trans hb11).trans (hb12.mono hb11.size)).mono B10.out.size)
    clear hb11 hb12 hown11 HX HT1 HE1
    go_wp2
    go_ret
    exact ⟨rfl, B12.out⟩
end Go.Proofs.YtakaglbbcaplhaaDoor
