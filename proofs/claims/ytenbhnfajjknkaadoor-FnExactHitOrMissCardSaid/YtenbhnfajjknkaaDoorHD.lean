/- Contracts of single functions, and plain lemmas, on which the exact laws of this seat rest; each holds under the conditions that it states. -/
import Derived.Test.YtenbhnfajjknkaaDoorAL2
import Derived.Test.YtenbhnfajjknkaaDoorSz
import Derived.Test.YtenbhnfajjknkaaDoorHd
import Derived.Test.YtenbhnfajjknkaaDoorPb
import Derived.Test.YtenbhnfajjknkaaDoorHC
import Derived.Deep.RegionHeld3
import Derived.Deep.DeepCutAuto
namespace Go.Proofs.YtenbhnfajjknkaaDoor
set_option linter.unusedVariables false
set_option linter.unusedSimpArgs false
open Go.RowKit

set_option maxHeartbeats 12000000 in
set_option maxRecDepth 100000 in
theorem law_HitOrMiss (u0 : Value) (ss0 : List ByteArray) (u1 : Value) (xs1 : List (Int × Int)) (u2 : Value) (xs2 : List (Int × Int)) (w : World) (hN0 : ss0.length ≤ maxLen) (hz0 : ∀ s ∈ ss0, s.size ≤ maxLen) (hu0 : Sl w u0 ss0) (hN1 : xs1.length ≤ maxLen) (hwf1 : ∀ p ∈ xs1, (Lit.int .i64 p.1).wf = true ∧ (Lit.int .i64 p.2).wf = true) (hu1 : SlA w u1 xs1) (hN2 : xs2.length ≤ maxLen) (hwf2 : ∀ p ∈ xs2, (Lit.int .i64 p.1).wf = true ∧ (Lit.int .i64 p.2).wf = true) (hu2 : SlA w u2 xs2) (he0 : ErrLen w) :
    Calls Tryd.prog 7 #[.agg #[u0], .agg #[u1], .agg #[u2]] w fun e w' => e = .returned (.bool true) ∧ Below w.heap.size w w' := by
  have HSL0 : Hid (∀ W, Below w.heap.size w W → Sl W u0 ss0) := fun W hb => hu0.below hb
  have HSL1 : Hid (∀ W, Below w.heap.size w W → SlA W u1 xs1) := fun W hb => hu1.below hb
  have HSL2 : Hid (∀ W, Below w.heap.size w W → SlA W u2 xs2) := fun W hb => hu2.below hb
  have HEN : Hid (∀ W, Below w.heap.size w W → ErrLen W) := fun W hb => he0.below hb
  obtain ⟨W0, hW0⟩ : ∃ W0, (((w.alloc (.cells #[u0] 24)).alloc (.cells #[u1] 27)).alloc (.cells #[u2] 27)) = W0 := ⟨_, rfl⟩
  have b0 : Below w.heap.size w W0 := by rw [← hW0]; exact ((((Below.refl w.heap.size w).alloc (by first | (simp; done) | (simp; omega)) _).alloc (by first | (simp; done) | (simp; omega)) _).alloc (by first | (simp; done) | (simp; omega)) _)
  have hp0 : W0.heap[w.heap.size + 0]? = some (.cells #[u0] 24 (0, 0)) := by
    rw [← hW0, Below.heap_alloc _ _ _ (by first | (simp; done) | (simp; omega)), Below.heap_alloc _ _ _ (by first | (simp; done) | (simp; omega))]
    have := heap_alloc_last w (.cells #[u0] 24)
    simpa using this
  have hp1 : W0.heap[w.heap.size + 1]? = some (.cells #[u1] 27 (0, 0)) := by
    rw [← hW0, Below.heap_alloc _ _ _ (by first | (simp; done) | (simp; omega))]
    have := heap_alloc_last (w.alloc (.cells #[u0] 24)) (.cells #[u1] 27)
    simpa using this
  have hp2 : W0.heap[w.heap.size + 2]? = some (.cells #[u2] 27 (0, 0)) := by
    rw [← hW0]
    have := heap_alloc_last ((w.alloc (.cells #[u0] 24)).alloc (.cells #[u1] 27)) (.cells #[u2] 27)
    simpa using this
  have HC : Hid (∀ W, Below W0.heap.size W0 W → W.cell? ⟨w.heap.size, 0, none⟩ = some u0 ∧ W.cell? ⟨w.heap.size + 1, 0, none⟩ = some u1 ∧ W.cell? ⟨w.heap.size + 1 + 1, 0, none⟩ = some u2) := fun W hb => ⟨cell_kept hb (by have := Joins.cell_of_block hp0 0; simpa using this), cell_kept hb (by have := Joins.cell_of_block hp1 0; simpa using this), cell_kept hb (by have := Joins.cell_of_block hp2 0; simpa using this)⟩
  have HB : Hid (∀ W, Below W0.heap.size W0 W → Below w.heap.size w W) := fun W hb => b0.trans (hb.mono b0.size)
  have HZ0 : Hid (∀ (left : Int) W, 0 ≤ left → left ≤ 1048576 → Below W0.heap.size W0 W → Calls Tryd.prog 11 #[.agg #[u0], .int .i64 left] W (SomeSz left ss0 W)) := fun left W h0 h1 hb => szPicture_any u0 ss0 left W h0 h1 hN0 hz0 (HSL0.out _ (HB.out _ hb))
  have HZ1 : Hid (∀ (left : Int) W, 0 ≤ left → left ≤ 1048576 → Below W0.heap.size W0 W → Calls Tryd.prog 12 #[.agg #[u1], .int .i64 left] W ((fun e w' => ∃ r : Int, e = .returned (.int .i64 r) ∧ r ≤ left ∧ -1 ≤ r ∧ (0 ≤ r → (xs1.length : Int) ≤ left) ∧ Below W.heap.size W w'))) := fun left W h0 h1 hb => szElement_any u1 xs1 left W h0 h1 hN1 (HSL1.out _ (HB.out _ hb))
  have HZ2 : Hid (∀ (left : Int) W, 0 ≤ left → left ≤ 1048576 → Below W0.heap.size W0 W → Calls Tryd.prog 12 #[.agg #[u2], .int .i64 left] W ((fun e w' => ∃ r : Int, e = .returned (.int .i64 r) ∧ r ≤ left ∧ -1 ≤ r ∧ (0 ≤ r → (xs2.length : Int) ≤ left) ∧ Below W.heap.size W w'))) := fun left W h0 h1 hb => szElement_any u2 xs2 left W h0 h1 hN2 (HSL2.out _ (HB.out _ hb))
  have HW := Lib.hid hW0
  have l0 := b0.size
  have c0_0 := (HC.out W0 (Below.refl _ _)).1
  clear b0 hW0 hp0 hp1 hp2 hu0 hu1 hu2 he0
  go_enter Tryd.func7, Tryd.ntmps7
  go_wp2_with fail
  rw [HW.out]
  refine (HZ0.out 1048576 _ (by omega) (by omega) (Below.refl _ _)).mono ?_
  rintro e wz0 ⟨r0, rfl, hr0, hs0, hq, hb⟩
  have Vwz0 := Lib.hid (hb)
  clear hb c0_0
  by_cases hr : r0 < 0
  · clear hq
    go_wp2_with fail
    go_ret
    exact ⟨rfl, HB.out _ Vwz0.out⟩
  · have hsm0 : ss0.length ≤ 1048576 := by have := (hq (by omega)).1; omega
    clear hq
    have c1_0 := (HC.out _ Vwz0.out).2.1
    go_wp2_with fail
    refine (HZ1.out r0 _ (by omega) (by omega) Vwz0.out).mono ?_
    rintro e wz1 ⟨r1, rfl, hr1, hs1, hq, hb⟩
    have Vwz1 := Lib.hid (Vwz0.out.trans (hb.mono Vwz0.out.size))
    clear hb c1_0
    by_cases hr : r1 < 0
    · clear hq
      go_wp2_with fail
      go_ret
      exact ⟨rfl, HB.out _ Vwz1.out⟩
    · have hsm1 : xs1.length ≤ 1048576 := by have := hq (by omega); omega
      clear hq
      have c2_0 := (HC.out _ Vwz1.out).2.2
      go_wp2_with fail
      refine (HZ2.out r1 _ (by omega) (by omega) Vwz1.out).mono ?_
      rintro e wz2 ⟨r2, rfl, hr2, hs2, hq, hb⟩
      have Vwz2 := Lib.hid (Vwz1.out.trans (hb.mono Vwz1.out.size))
      clear hb c2_0
      by_cases hr : r2 < 0
      · clear hq
        go_wp2_with fail
        go_ret
        exact ⟨rfl, HB.out _ Vwz2.out⟩
      · have hsm2 : xs2.length ≤ 1048576 := by have := hq (by omega); omega
        clear hq
        have HTA0 : Hid (∀ W, Below W0.heap.size W0 W → Calls Tryd.prog 14 #[.agg #[u0]] W (TookPic W ss0)) := fun W hb => toPicture_any u0 ss0 W hsm0 (HSL0.out _ (HB.out _ hb))
        have CE0 : Hid (∀ x y W, Sl W x ss0 → Sl W y ss0 → Calls Tryd.prog 17 #[.agg #[x], .agg #[y]] W (SaysB true W)) := fun x y W hx hy => by have := eqPicture_any x y ss0 ss0 W hN0 hN0 hx hy; rwa [sameL_self] at this
        have HTA1 : Hid (∀ W, Below W0.heap.size W0 W → Calls Tryd.prog 15 #[.agg #[u1]] W (TookEl W xs1)) := fun W hb => toElement_any u1 xs1 W hsm1 (HSL1.out _ (HB.out _ hb))
        have CE1 : Hid (∀ x y W, SlS W x xs1 → SlS W y xs1 → Calls Tryd.prog 18 #[.agg #[x], .agg #[y]] W (SaysB true W)) := fun x y W hx hy => eqElement_same x y xs1 W hsm1 hx hy
        have HTA2 : Hid (∀ W, Below W0.heap.size W0 W → Calls Tryd.prog 15 #[.agg #[u2]] W (TookEl W xs2)) := fun W hb => toElement_any u2 xs2 W hsm2 (HSL2.out _ (HB.out _ hb))
        have CE2 : Hid (∀ x y W, SlS W x xs2 → SlS W y xs2 → Calls Tryd.prog 18 #[.agg #[x], .agg #[y]] W (SaysB true W)) := fun x y W hx hy => eqElement_same x y xs2 W hsm2 hx hy
        obtain ⟨P, ok, hPl, hS, hI⟩ : ∃ (P : List ByteArray) (ok : Bool), P.length ≤ 16 ∧ (∀ x0 x1 x2 W, Sl W x0 ss0 → SlS W x1 xs1 → SlS W x2 xs2 → Calls Tryd.prog 28 #[.agg #[x0], .agg #[x1], .agg #[x2]] W (SaysPic P ok W)) ∧ (∀ x0 x1 x2 W, Sl W x0 ss0 → SlS W x1 xs1 → SlS W x2 xs2 → (∀ ao n c, x1 = .slice ao n c → n ≤ c) → (∀ ao n c, x2 = .slice ao n c → n ≤ c) → (ErrLen W) → Calls Tryd.prog 29 #[.agg #[x0], .agg #[x1], .agg #[x2]] W (SaysPic P ok W)) := ⟨hmP ss0 xs1 xs2, hmOk ss0 xs1 xs2, hmP_len _ _ _, fun x0 x1 x2 W a b c => spec_Hit x0 x1 x2 ss0 xs1 xs2 W hN0 hz0 a hsm1 b hsm2 c, fun x0 x1 x2 W a b c p q e => impl_Hit x0 x1 x2 ss0 xs1 xs2 W hN0 hz0 a hsm1 hwf1 b p hsm2 hwf2 c e⟩
        have CS := Lib.hid hS
        have CI := Lib.hid hI
        have CE : Hid (∀ x y W, Sl W x P → Sl W y P → Calls Tryd.prog 17 #[.agg #[x], .agg #[y]] W (SaysB true W)) := fun x y W hx hy => by have := eqPicture_any x y P P W (by unfold maxLen; omega) (by unfold maxLen; omega) hx hy; rwa [sameL_self] at this
        obtain ⟨m, hmm, hM, hH⟩ : ∃ m : Int, 0 ≤ m ∧ (∀ v lo hi W, PicO lo hi v P W → Calls Tryd.prog 19 #[.agg #[v], .int .i64 1] W (fun e w' => e = .returned (.int .i64 m) ∧ PicO lo hi v (marks 1 P.length) w' ∧ Far lo hi W w')) ∧ (∀ v W, Sl W v (marks 1 P.length) → Calls Tryd.prog 21 #[.agg #[v], .int .i64 1] W (fun e w' => e = .returned (.int .i64 m) ∧ Below W.heap.size W w')) :=
          ⟨((1 + P.length : Nat) : Int), by omega, fun v lo hi W h => mark_pic v P lo hi 1 W (by omega) (by omega) h, fun v W h => heldPicture_any v 1 P.length W (by omega) (by omega) h⟩
        have CM := Lib.hid hM
        have CH := Lib.hid hH
        obtain ⟨m0, q0, hm0, hqm0, hqb0, hM0⟩ : ∃ (m0 : Int) (q0 : Nat), 0 ≤ m0 ∧ m0 = ((q0 : Nat) : Int) ∧ (1 ≤ q0 ∧ q0 ≤ 2100001) ∧ (∀ v lo hi W, PicO lo hi v ss0 W → Calls Tryd.prog 19 #[.agg #[v], .int .i64 1] W (fun e w' => e = .returned (.int .i64 m0) ∧ PicO lo hi v (marks 1 ss0.length) w' ∧ Far lo hi W w')) :=
          ⟨((1 + ss0.length : Nat) : Int), 1 + ss0.length, by omega, rfl, by omega, fun v lo hi W h => by exact mark_pic v ss0 lo hi 1 W (by omega) (by omega) h⟩
        have CM0 := Lib.hid hM0
        obtain ⟨m1, q1, hm1, hqm1, hqb1, hM1⟩ : ∃ (m1 : Int) (q1 : Nat), 0 ≤ m1 ∧ m1 = ((q1 : Nat) : Int) ∧ (1 ≤ q1 ∧ q1 ≤ 4200001) ∧ (∀ v lo hi W, ElO lo hi v xs1 W → Calls Tryd.prog 20 #[.agg #[v], .int .i64 m0] W (fun e w' => e = .returned (.int .i64 m1) ∧ ElO lo hi v (marksS q0 xs1.length) w' ∧ Far lo hi W w')) :=
          ⟨((q0 + xs1.length * 2 : Nat) : Int), q0 + xs1.length * 2, by omega, rfl, by have := hqb0.1; have := hqb0.2; omega, fun v lo hi W h => by rw [hqm0]; exact mark_el v xs1 lo hi q0 W hqb0.1 (by have := hqb0.2; omega) h⟩
        have CM1 := Lib.hid hM1
        obtain ⟨m2, q2, hm2, hqm2, hqb2, hM2⟩ : ∃ (m2 : Int) (q2 : Nat), 0 ≤ m2 ∧ m2 = ((q2 : Nat) : Int) ∧ (1 ≤ q2 ∧ q2 ≤ 6300001) ∧ (∀ v lo hi W, ElO lo hi v xs2 W → Calls Tryd.prog 20 #[.agg #[v], .int .i64 m1] W (fun e w' => e = .returned (.int .i64 m2) ∧ ElO lo hi v (marksS q1 xs2.length) w' ∧ Far lo hi W w')) :=
          ⟨((q1 + xs2.length * 2 : Nat) : Int), q1 + xs2.length * 2, by omega, rfl, by have := hqb1.1; have := hqb1.2; omega, fun v lo hi W h => by rw [hqm1]; exact mark_el v xs2 lo hi q1 W hqb1.1 (by have := hqb1.2; omega) h⟩
        have CM2 := Lib.hid hM2
        clear hS hI hM hH hPl hM0 hqm0 hqb0 hM1 hqm1 hqb1 hM2 hqm2 hqb2
        have HX : Hid (∀ W, Below wz2.heap.size wz2 W → Below W0.heap.size W0 W) := fun W hb => Vwz2.out.trans (hb.mono Vwz2.out.size)
        go_upto_region 11 with fail
        go_cut [8, 9] (fun s8 s9 wx => ∃ (bw : Nat) (ao : Option Addr) (n cap lo hi H : Nat), s8 = .pointer (some ⟨bw, 0, none⟩) ∧ s9 = .bool ok ∧ VarO (PicO lo hi (.slice ao n cap) P) 30 bw (.slice ao n cap) lo hi wz2.heap.size H wx ∧ H ≤ wx.heap.size ∧ Below wz2.heap.size wz2 wx)
        case first =>
          go_region_held3 (fun w' => w'.cell? ⟨w.heap.size, 0, none⟩ = some u0 ∧ w'.cell? ⟨w.heap.size + 1, 0, none⟩ = some u1 ∧ w'.cell? ⟨w.heap.size + 1 + 1, 0, none⟩ = some u2)
            (first | exact HC.out _ (HX.out _ (Below.refl _ _)) | exact HC.out _ (HX.out _ (Below.refl wz2.heap.size wz2).drew) | exact HC.out _ (HX.out _ (((Below.refl wz2.heap.size wz2).drew).alloc (Nat.le_refl _) _)) | exact HC.out _ (HX.out _ hB1) | exact HC.out _ (HX.out _ (hB1.alloc hB1.size _)) | exact HC.out _ (HX.out _ hB2) | exact HC.out _ (HX.out _ (hB2.alloc hB2.size _)) | exact HC.out _ (HX.out _ hB3) | exact HC.out _ (HX.out _ (hB3.alloc hB3.size _)) | exact HC.out _ (HX.out _ hB4) | exact HC.out _ (HX.out _ (hB4.alloc hB4.size _)) | exact HC.out _ (HX.out _ (hB4.setCell (p := ⟨wz2.heap.size, 0, none⟩) (Nat.le_refl _) _)) | exact HC.out _ (HX.out _ (hB4.setCell (p := ⟨wa1.heap.size, 0, none⟩) hB1.size _)) | exact HC.out _ (HX.out _ (hB4.setCell (p := ⟨wa2.heap.size, 0, none⟩) hB2.size _)) | exact HC.out _ (HX.out _ (hB4.setCell (p := ⟨wa3.heap.size, 0, none⟩) hB3.size _)))
            (first
              | (go_at_call 14; refine (HTA0.out _ (HX.out _ (by first | exact (Below.refl wz2.heap.size wz2).drew | exact ((Below.refl wz2.heap.size wz2).drew).alloc (Nat.le_refl _) _))).mono ?_; rintro e wa1 ⟨g1, cap1, rfl, hown1, hb1⟩; have hB1 : Below wz2.heap.size wz2 wa1 := (by first | exact ((Below.refl wz2.heap.size wz2).drew).trans (hb1.mono (Nat.le_refl _)) | exact (((Below.refl wz2.heap.size wz2).drew).alloc (Nat.le_refl _) _).trans (hb1.mono (by simp))))
              | (go_at_call 15; refine (HTA1.out _ (HX.out _ (by first | exact hB1 | exact hB1.alloc hB1.size _))).mono ?_; rintro e wa2 ⟨g2, cap2, rfl, hown2, hb2⟩; have hB2 : Below wz2.heap.size wz2 wa2 := (by first | exact hB1.trans (hb2.mono hB1.size) | exact (hB1.alloc hB1.size _).trans (hb2.mono (by have := hB1.size; simp; omega))))
              | (go_at_call 15; refine (HTA2.out _ (HX.out _ (by first | exact hB2 | exact hB2.alloc hB2.size _))).mono ?_; rintro e wa3 ⟨g3, cap3, rfl, hown3, hb3⟩; have hB3 : Below wz2.heap.size wz2 wa3 := (by first | exact hB2.trans (hb3.mono hB2.size) | exact (hB2.alloc hB2.size _).trans (hb3.mono (by have := hB2.size; simp; omega))))
              | (go_at_call 28; refine (CS.out _ _ _ _ (by first | exact ((PicO.sl (PicO.of hown1 (Nat.le_refl _))).below hb2).below hb3 | exact (((PicO.sl (PicO.of hown1 (Nat.le_refl _))).below (Joins.below_alloc1 _ _)).below hb2).below hb3 | exact (((PicO.sl (PicO.of hown1 (Nat.le_refl _))).below hb2).below (Joins.below_alloc1 _ _)).below hb3 | exact (((PicO.sl (PicO.of hown1 (Nat.le_refl _))).below hb2).below hb3).below (Joins.below_alloc1 _ _)) (by first | exact (ElO.sl (ElO.of hown2 (Nat.le_refl _))).below hb3 | exact ((ElO.sl (ElO.of hown2 (Nat.le_refl _))).below (Joins.below_alloc1 _ _)).below hb3 | exact ((ElO.sl (ElO.of hown2 (Nat.le_refl _))).below hb3).below (Joins.below_alloc1 _ _)) (by first | exact ElO.sl (ElO.of hown3 (Nat.le_refl _)) | exact (ElO.sl (ElO.of hown3 (Nat.le_refl _))).below (Joins.below_alloc1 _ _))).mono ?_; rintro e wa4 ⟨ao5, n5, cap5, rfl, h5, hb4⟩; have hB4 : Below wz2.heap.size wz2 wa4 := (by first | exact hB3.trans (hb4.mono hB3.size) | exact (hB3.alloc hB3.size _).trans (hb4.mono (by have := hB3.size; simp; omega))); (first
                  | (have hq5 : wa4.heap[wa3.heap.size]? = some (.cells #[.slice none 0 0] 30 (0, 0)) := (hb4.block _ (by simp)).trans (heap_alloc_last wa3 _); have hcq := cell_of_one hq5; have hfq := free_of_one hq5)
                  | (have hq5 : wa4.heap[wa2.heap.size]? = some (.cells #[.slice none 0 0] 30 (0, 0)) := (hb4.block _ (by have h3 := hb3.size; simp at h3; omega)).trans ((hb3.block _ (by simp)).trans (heap_alloc_last wa2 _)); have hcq := cell_of_one hq5; have hfq := free_of_one hq5)
                  | (have hq5 : wa4.heap[wa1.heap.size]? = some (.cells #[.slice none 0 0] 30 (0, 0)) := (hb4.block _ (by have h2 := hb2.size; have h3 := hb3.size; simp at h2; omega)).trans ((hb3.block _ (by have h2 := hb2.size; simp at h2; omega)).trans ((hb2.block _ (by simp)).trans (heap_alloc_last wa1 _))); have hcq := cell_of_one hq5; have hfq := free_of_one hq5)
                  | (have hq5 : wa4.heap[wz2.heap.size]? = some (.cells #[.slice none 0 0] 30 (0, 0)) := (hb4.block _ (by have h1 := hb1.size; have h2 := hb2.size; have h3 := hb3.size; simp at h1; omega)).trans ((hb3.block _ (by have h1 := hb1.size; have h2 := hb2.size; simp at h1; omega)).trans ((hb2.block _ (by have h1 := hb1.size; simp at h1; omega)).trans ((hb1.block _ (by simp)).trans (heap_alloc_last wz2.drew _)))); have hcq := cell_of_one hq5; have hfq := free_of_one hq5)
                  | skip)))
          all_goals (go_wp2_with fail; go_meet)
          all_goals first
            | exact ⟨wa4.heap.size, ao5, n5, cap5, _, wa4.heap.size, wa4.heap.size + 1, rfl, rfl, VarO.new (PicO.of h5 (Nat.le_refl _)) Row.liv (Nat.le_refl _) (far_alloc _ _) (by first | exact hB3.size | (have := hB3.size; simp; omega) | simp) hB4.size, by simp, hB4.alloc hB4.size _⟩
            | exact ⟨wa3.heap.size, ao5, n5, cap5, _, wa4.heap.size, wa4.heap.size, rfl, rfl, VarO.set ((hb4.block _ (by simp)).trans (heap_alloc_last wa3 _)) (PicO.of h5 (Nat.le_refl _)) Row.liv (Or.inl (by have z4 := hb4.size; (try simp at z4); (try simp only [World.size_alloc]); omega)) (by first | exact hB3.size | (have := hB3.size; simp; omega) | simp) (Nat.le_refl _) hB3.size (by have z4 := hb4.size; (try simp at z4); (try simp only [World.size_alloc]); omega), by simp [World.setCell], hB4.setCell (p := ⟨wa3.heap.size, 0, none⟩) hB3.size _⟩
            | exact ⟨wa2.heap.size, ao5, n5, cap5, _, wa4.heap.size, wa4.heap.size, rfl, rfl, VarO.set ((hb4.block _ (by have h3 := hb3.size; simp at h3; omega)).trans ((hb3.block _ (by simp)).trans (heap_alloc_last wa2 _))) (PicO.of h5 (Nat.le_refl _)) Row.liv (Or.inl (by have z3 := hb3.size; have z4 := hb4.size; (try simp at z3); (try simp at z4); (try simp only [World.size_alloc]); omega)) (by first | exact hB3.size | (have := hB3.size; simp; omega) | simp) (Nat.le_refl _) hB2.size (by have z3 := hb3.size; have z4 := hb4.size; (try simp at z3); (try simp at z4); (try simp only [World.size_alloc]); omega), by simp [World.setCell], hB4.setCell (p := ⟨wa2.heap.size, 0, none⟩) hB2.size _⟩
            | exact ⟨wa1.heap.size, ao5, n5, cap5, _, wa4.heap.size, wa4.heap.size, rfl, rfl, VarO.set ((hb4.block _ (by have h2 := hb2.size; have h3 := hb3.size; simp at h2; omega)).trans ((hb3.block _ (by have h2 := hb2.size; simp at h2; omega)).trans ((hb2.block _ (by simp)).trans (heap_alloc_last wa1 _)))) (PicO.of h5 (Nat.le_refl _)) Row.liv (Or.inl (by have z2 := hb2.size; have z3 := hb3.size; have z4 := hb4.size; (try simp at z2); (try simp at z3); (try simp at z4); (try simp only [World.size_alloc]); omega)) (by first | exact hB3.size | (have := hB3.size; simp; omega) | simp) (Nat.le_refl _) hB1.size (by have z2 := hb2.size; have z3 := hb3.size; have z4 := hb4.size; (try simp at z2); (try simp at z3); (try simp at z4); (try simp only [World.size_alloc]); omega), by simp [World.setCell], hB4.setCell (p := ⟨wa1.heap.size, 0, none⟩) hB1.size _⟩
            | exact ⟨wz2.heap.size, ao5, n5, cap5, _, wa4.heap.size, wa4.heap.size, rfl, rfl, VarO.set ((hb4.block _ (by have h1 := hb1.size; have h2 := hb2.size; have h3 := hb3.size; simp at h1; omega)).trans ((hb3.block _ (by have h1 := hb1.size; have h2 := hb2.size; simp at h1; omega)).trans ((hb2.block _ (by have h1 := hb1.size; simp at h1; omega)).trans ((hb1.block _ (by simp)).trans (heap_alloc_last wz2.drew _))))) (PicO.of h5 (Nat.le_refl _)) Row.liv (Or.inl (by have z1 := hb1.size; have z2 := hb2.size; have z3 := hb3.size; have z4 := hb4.size; (try simp at z1); (try simp at z2); (try simp at z3); (try simp at z4); (try simp only [World.size_alloc]); omega)) (by first | exact hB3.size | (have := hB3.size; simp; omega) | simp) (Nat.le_refl _) (Nat.le_refl _) (by have z1 := hb1.size; have z2 := hb2.size; have z3 := hb3.size; have z4 := hb4.size; (try simp at z1); (try simp at z2); (try simp at z3); (try simp at z4); (try simp only [World.size_alloc]); omega), by simp [World.setCell], hB4.setCell (p := ⟨wz2.heap.size, 0, none⟩) (Nat.le_refl _) _⟩
        obtain ⟨b5, ao5, n5, cap5, lo5, hi5, H5, rfl, rfl, hp5, hH5, hbx⟩ := hcut
        have PW := Lib.hid hp5
        have Vc := Lib.hid (HX.out _ hbx)
        have lc := hbx.size
        have lz := Vwz2.out.size
        clear hp5 hbx HX
        have c0_0 := (HC.out _ Vc.out).1
        go_wp2_with fail
        refine (HTA0.out _ Vc.out).mono ?_
        rintro e w6 ⟨gw6, capw6, rfl, hown, hb⟩
        have lw6 : wc.heap.size ≤ w6.heap.size := by have := hb.size; simpa using this
        have X0 := Lib.hid (VarO.new (t := 30) (v := .slice (some ⟨gw6, 0, none⟩) ss0.length capw6) (L := wc.heap.size) (PicO.of hown (Nat.le_refl _)) Row.liv (Nat.le_refl _) (far_alloc _ _) (by simp) lw6)
        have hba := hb.trans ((Joins.below_alloc1 w6 (.cells #[.slice (some ⟨gw6, 0, none⟩) ss0.length capw6] 30)).mono hb.size)
        have hf := Far.ofB hba
        have PW := Lib.hid (PW.out.far0 hf)
        have Vw6 := Lib.hid (Vc.out.trans (hba.mono Vc.out.size))
        clear hb hown hba hf c0_0 Vc
        have c1_0 := (HC.out _ Vw6.out).2.1
        go_wp2_with fail
        refine (HTA1.out _ Vw6.out).mono ?_
        rintro e w7 ⟨gw7, capw7, rfl, hown, hb⟩
        have lw7 : w6.heap.size + 1 ≤ w7.heap.size := by have := hb.size; simpa using this
        have X1 := Lib.hid (VarO.new (t := 36) (v := .slice (some ⟨gw7, 0, none⟩) xs1.length capw7) (L := w6.heap.size + 1) (ElO.of hown (Nat.le_refl _)) Row.liv (Nat.le_refl _) (far_alloc _ _) (by simp) lw7)
        have hba := hb.trans ((Joins.below_alloc1 w7 (.cells #[.slice (some ⟨gw7, 0, none⟩) xs1.length capw7] 36)).mono hb.size)
        have hf := Far.ofB hba
        have PW := Lib.hid (PW.out.far0 hf)
        have X0 := Lib.hid (X0.out.far0 hf)
        have Vw7 := Lib.hid (Vw6.out.trans (hba.mono Vw6.out.size))
        clear hb hown hba hf c1_0 Vw6
        have c2_0 := (HC.out _ Vw7.out).2.2
        go_wp2_with fail
        refine (HTA2.out _ Vw7.out).mono ?_
        rintro e w8 ⟨gw8, capw8, rfl, hown, hb⟩
        have lw8 : w7.heap.size + 1 ≤ w8.heap.size := by have := hb.size; simpa using this
        have X2 := Lib.hid (VarO.new (t := 36) (v := .slice (some ⟨gw8, 0, none⟩) xs2.length capw8) (L := w7.heap.size + 1) (ElO.of hown (Nat.le_refl _)) Row.liv (Nat.le_refl _) (far_alloc _ _) (by simp) lw8)
        have hba := hb.trans ((Joins.below_alloc1 w8 (.cells #[.slice (some ⟨gw8, 0, none⟩) xs2.length capw8] 36)).mono hb.size)
        have hf := Far.ofB hba
        have PW := Lib.hid (PW.out.far0 hf)
        have X0 := Lib.hid (X0.out.far0 hf)
        have X1 := Lib.hid (X1.out.far0 hf)
        have Vw8 := Lib.hid (Vw7.out.trans (hba.mono Vw7.out.size))
        clear hb hown hba hf c2_0 Vw7
        have xv0 := X0.out.val
        have xv1 := X1.out.val
        have xv2 := X2.out.val
        go_wp2_with fail
        refine (CI.out _ _ _ _ (PicO.sl X0.out.o) (ElO.sl X1.out.o) (ElO.sl X2.out.o) (own_capA X1.out.o.o) (own_capA X2.out.o.o) (HEN.out _ (HB.out _ Vw8.out))).mono ?_
        rintro e w9 ⟨ao8, n8, cap8, rfl, h8, hb⟩
        have lw9 : w8.heap.size + 1 ≤ w9.heap.size := by have := hb.size; simpa using this
        have G := Lib.hid (VarO.new (t := 30) (v := .slice ao8 n8 cap8) (L := w8.heap.size + 1) (PicO.of h8 (Nat.le_refl _)) Row.liv (Nat.le_refl _) (far_alloc _ _) (by simp) lw9)
        have hba := hb.trans ((Joins.below_alloc1 w9 (.cells #[.slice ao8 n8 cap8] 30)).mono hb.size)
        have hf := Far.ofB hba
        have PW := Lib.hid (PW.out.far0 hf)
        have X0 := Lib.hid (X0.out.far0 hf)
        have X1 := Lib.hid (X1.out.far0 hf)
        have X2 := Lib.hid (X2.out.far0 hf)
        have Vw9 := Lib.hid (Vw8.out.trans (hba.mono Vw8.out.size))
        clear hb h8 hba hf xv0 xv1 xv2 Vw8
        have gv := G.out.val
        have pv := PW.out.val
        go_wp2_with fail
        refine (CE.out _ _ _ (PicO.sl G.out.o) (PicO.sl PW.out.o)).mono ?_
        rintro e w10 ⟨rfl, hb⟩
        have hf := Far.ofB hb
        have PW := Lib.hid (PW.out.far0 hf)
        have X0 := Lib.hid (X0.out.far0 hf)
        have X1 := Lib.hid (X1.out.far0 hf)
        have X2 := Lib.hid (X2.out.far0 hf)
        have G := Lib.hid (G.out.far0 hf)
        have Vw10 := Lib.hid (Vw9.out.trans (hb.mono Vw9.out.size))
        have lw10 : w9.heap.size + 1 ≤ w10.heap.size := by have := hb.size; simpa using this
        clear hb hf gv pv Vw9
        have HX : Hid (∀ W, Below w10.heap.size w10 W → W.cell? ⟨w.heap.size, 0, none⟩ = some u0 ∧ W.cell? ⟨w6.heap.size, 0, none⟩ = some (.slice (some ⟨gw6, 0, none⟩) ss0.length capw6)) := fun W hb => ⟨(HC.out _ (Vw10.out.trans (hb.mono Vw10.out.size))).1, (X0.out.far0 (Far.ofB hb)).val⟩
        have HT1 : Hid (∀ W, Below w10.heap.size w10 W → Calls Tryd.prog 14 #[.agg #[u0]] W (TookPic W ss0)) := fun W hb => HTA0.out _ (Vw10.out.trans (hb.mono Vw10.out.size))
        have HE1 : Hid (∀ W x, Below w10.heap.size w10 W → Sl W x ss0 → Calls Tryd.prog 17 #[.agg #[.slice (some ⟨gw6, 0, none⟩) ss0.length capw6], .agg #[x]] W (SaysB true W)) := fun W x hb hx => CE0.out _ x W (PicO.sl (X0.out.far0 (Far.ofB hb)).o) hx
        go_wp2_with fail
        go_region_held3 (fun w' => w'.cell? ⟨w.heap.size, 0, none⟩ = some u0 ∧ w'.cell? ⟨w6.heap.size, 0, none⟩ = some (.slice (some ⟨gw6, 0, none⟩) ss0.length capw6))
          (first | exact HX.out _ (Below.refl _ _) | exact HX.out _ (Below.refl _ _).drew | exact HX.out _ ((Below.refl _ _).drew.trans hba) | exact HX.out _ (((Below.refl _ _).drew.trans hba).trans (hbb.mono hba.size)))
          (first | (go_at_call 14; refine (HT1.out _ (Below.refl _ _).drew).mono ?_; rintro e w11 ⟨ga, capa, rfl, howna, hba⟩) | (go_at_call 17; refine (HE1.out _ _ ((Below.refl _ _).drew.trans hba) (PicO.sl (PicO.of howna (Nat.le_refl _)))).mono ?_; rintro e w12 ⟨rfl, hbb⟩))
        have hbc := (Below.refl w10.heap.size w10).drew.trans (hba.trans (hbb.mono hba.size))
        have hf := Far.ofB hbc
        have PW := Lib.hid (PW.out.far0 hf)
        have X0 := Lib.hid (X0.out.far0 hf)
        have X1 := Lib.hid (X1.out.far0 hf)
        have X2 := Lib.hid (X2.out.far0 hf)
        have G := Lib.hid (G.out.far0 hf)
        have Vw12 := Lib.hid (Vw10.out.trans (hbc.mono Vw10.out.size))
        have lw12 : w10.heap.size ≤ w12.heap.size := hbc.size
        clear hba hbb hbc hf howna HX HT1 HE1 Vw10
        have HX : Hid (∀ W, Below w12.heap.size w12 W → W.cell? ⟨w.heap.size + 1, 0, none⟩ = some u1 ∧ W.cell? ⟨w7.heap.size, 0, none⟩ = some (.slice (some ⟨gw7, 0, none⟩) xs1.length capw7)) := fun W hb => ⟨(HC.out _ (Vw12.out.trans (hb.mono Vw12.out.size))).2.1, (X1.out.far0 (Far.ofB hb)).val⟩
        have HT1 : Hid (∀ W, Below w12.heap.size w12 W → Calls Tryd.prog 15 #[.agg #[u1]] W (TookEl W xs1)) := fun W hb => HTA1.out _ (Vw12.out.trans (hb.mono Vw12.out.size))
        have HE1 : Hid (∀ W x, Below w12.heap.size w12 W → SlS W x xs1 → Calls Tryd.prog 18 #[.agg #[.slice (some ⟨gw7, 0, none⟩) xs1.length capw7], .agg #[x]] W (SaysB true W)) := fun W x hb hx => CE1.out _ x W (ElO.sl (X1.out.far0 (Far.ofB hb)).o) hx
        go_wp2_with fail
        go_region_held3 (fun w' => w'.cell? ⟨w.heap.size + 1, 0, none⟩ = some u1 ∧ w'.cell? ⟨w7.heap.size, 0, none⟩ = some (.slice (some ⟨gw7, 0, none⟩) xs1.length capw7))
          (first | exact HX.out _ (Below.refl _ _) | exact HX.out _ (Below.refl _ _).drew | exact HX.out _ ((Below.refl _ _).drew.trans hba) | exact HX.out _ (((Below.refl _ _).drew.trans hba).trans (hbb.mono hba.size)))
          (first | (go_at_call 15; refine (HT1.out _ (Below.refl _ _).drew).mono ?_; rintro e w13 ⟨ga, capa, rfl, howna, hba⟩) | (go_at_call 18; refine (HE1.out _ _ ((Below.refl _ _).drew.trans hba) (ElO.sl (ElO.of howna (Nat.le_refl _)))).mono ?_; rintro e w14 ⟨rfl, hbb⟩))
        have hbc := (Below.refl w12.heap.size w12).drew.trans (hba.trans (hbb.mono hba.size))
        have hf := Far.ofB hbc
        have PW := Lib.hid (PW.out.far0 hf)
        have X0 := Lib.hid (X0.out.far0 hf)
        have X1 := Lib.hid (X1.out.far0 hf)
        have X2 := Lib.hid (X2.out.far0 hf)
        have G := Lib.hid (G.out.far0 hf)
        have Vw14 := Lib.hid (Vw12.out.trans (hbc.mono Vw12.out.size))
        have lw14 : w12.heap.size ≤ w14.heap.size := hbc.size
        clear hba hbb hbc hf howna HX HT1 HE1 Vw12
        have HX : Hid (∀ W, Below w14.heap.size w14 W → W.cell? ⟨w.heap.size + 1 + 1, 0, none⟩ = some u2 ∧ W.cell? ⟨w8.heap.size, 0, none⟩ = some (.slice (some ⟨gw8, 0, none⟩) xs2.length capw8)) := fun W hb => ⟨(HC.out _ (Vw14.out.trans (hb.mono Vw14.out.size))).2.2, (X2.out.far0 (Far.ofB hb)).val⟩
        have HT1 : Hid (∀ W, Below w14.heap.size w14 W → Calls Tryd.prog 15 #[.agg #[u2]] W (TookEl W xs2)) := fun W hb => HTA2.out _ (Vw14.out.trans (hb.mono Vw14.out.size))
        have HE1 : Hid (∀ W x, Below w14.heap.size w14 W → SlS W x xs2 → Calls Tryd.prog 18 #[.agg #[.slice (some ⟨gw8, 0, none⟩) xs2.length capw8], .agg #[x]] W (SaysB true W)) := fun W x hb hx => CE2.out _ x W (ElO.sl (X2.out.far0 (Far.ofB hb)).o) hx
        go_wp2_with fail
        go_region_held3 (fun w' => w'.cell? ⟨w.heap.size + 1 + 1, 0, none⟩ = some u2 ∧ w'.cell? ⟨w8.heap.size, 0, none⟩ = some (.slice (some ⟨gw8, 0, none⟩) xs2.length capw8))
          (first | exact HX.out _ (Below.refl _ _) | exact HX.out _ (Below.refl _ _).drew | exact HX.out _ ((Below.refl _ _).drew.trans hba) | exact HX.out _ (((Below.refl _ _).drew.trans hba).trans (hbb.mono hba.size)))
          (first | (go_at_call 15; refine (HT1.out _ (Below.refl _ _).drew).mono ?_; rintro e w15 ⟨ga, capa, rfl, howna, hba⟩) | (go_at_call 18; refine (HE1.out _ _ ((Below.refl _ _).drew.trans hba) (ElO.sl (ElO.of howna (Nat.le_refl _)))).mono ?_; rintro e w16 ⟨rfl, hbb⟩))
        have hbc := (Below.refl w14.heap.size w14).drew.trans (hba.trans (hbb.mono hba.size))
        have hf := Far.ofB hbc
        have PW := Lib.hid (PW.out.far0 hf)
        have X0 := Lib.hid (X0.out.far0 hf)
        have X1 := Lib.hid (X1.out.far0 hf)
        have X2 := Lib.hid (X2.out.far0 hf)
        have G := Lib.hid (G.out.far0 hf)
        have Vw16 := Lib.hid (Vw14.out.trans (hbc.mono Vw14.out.size))
        have lw16 : w14.heap.size ≤ w16.heap.size := hbc.size
        clear hba hbb hbc hf howna HX HT1 HE1 Vw14
        have xv := X0.out.val
        go_wp2_with fail
        refine (CM0.out _ _ _ _ X0.out.o).mono ?_
        rintro e w17 ⟨rfl, ho, hf⟩
        obtain ⟨hxl, hxh⟩ : wc.heap.size ≤ _ ∧ _ ≤ w6.heap.size + 1 := ⟨X0.out.hl, X0.out.hh⟩
        have PW := Lib.hid (PW.out.far hf (by omega))
        have X1 := Lib.hid (X1.out.far hf (by omega))
        have X2 := Lib.hid (X2.out.far hf (by omega))
        have G := Lib.hid (G.out.far hf (by omega))
        have Vw17 := Lib.hid (hf.bel Vw16.out (by omega) (Nat.le_refl _))
        have lw17 : w16.heap.size ≤ w17.heap.size := hf.size
        have X0 := Lib.hid (X0.out.marked hf ho Row.liv)
        clear ho hf xv hxl hxh Vw16
        clear X0
        have xv := X1.out.val
        go_wp2_with fail
        refine (CM1.out _ _ _ _ X1.out.o).mono ?_
        rintro e w18 ⟨rfl, ho, hf⟩
        obtain ⟨hxl, hxh⟩ : w6.heap.size + 1 ≤ _ ∧ _ ≤ w7.heap.size + 1 := ⟨X1.out.hl, X1.out.hh⟩
        have PW := Lib.hid (PW.out.far hf (by omega))
        have X2 := Lib.hid (X2.out.far hf (by omega))
        have G := Lib.hid (G.out.far hf (by omega))
        have Vw18 := Lib.hid (hf.bel Vw17.out (by omega) (Nat.le_refl _))
        have lw18 : w17.heap.size ≤ w18.heap.size := hf.size
        have X1 := Lib.hid (X1.out.marked hf ho Row.liv)
        clear ho hf xv hxl hxh Vw17
        clear X1
        have xv := X2.out.val
        go_wp2_with fail
        refine (CM2.out _ _ _ _ X2.out.o).mono ?_
        rintro e w19 ⟨rfl, ho, hf⟩
        obtain ⟨hxl, hxh⟩ : w7.heap.size + 1 ≤ _ ∧ _ ≤ w8.heap.size + 1 := ⟨X2.out.hl, X2.out.hh⟩
        have PW := Lib.hid (PW.out.far hf (by omega))
        have G := Lib.hid (G.out.far hf (by omega))
        have Vw19 := Lib.hid (hf.bel Vw18.out (by omega) (Nat.le_refl _))
        have lw19 : w18.heap.size ≤ w19.heap.size := hf.size
        have X2 := Lib.hid (X2.out.marked hf ho Row.liv)
        clear ho hf xv hxl hxh Vw18
        clear X2
        have gv := G.out.val
        have pv := PW.out.val
        go_wp2_with fail
        refine (CE.out _ _ _ (PicO.sl G.out.o) (PicO.sl PW.out.o)).mono ?_
        rintro e w20 ⟨rfl, hb⟩
        have hf := Far.ofB hb
        have PW := Lib.hid (PW.out.far0 hf)
        have G := Lib.hid (G.out.far0 hf)
        have Vw20 := Lib.hid (Vw19.out.trans (hb.mono Vw19.out.size))
        have lw20 : w19.heap.size ≤ w20.heap.size := by have := hb.size; simpa using this
        clear hb hf gv pv Vw19
        have xv := G.out.val
        go_wp2_with fail
        refine (CM.out _ _ _ _ G.out.o).mono ?_
        rintro e w21 ⟨rfl, ho, hf⟩
        obtain ⟨hxl, hxh⟩ : w8.heap.size + 1 ≤ _ ∧ _ ≤ w9.heap.size + 1 := ⟨G.out.hl, G.out.hh⟩
        have PW := Lib.hid (PW.out.far hf (by omega))
        have Vw21 := Lib.hid (hf.bel Vw20.out (by omega) (Nat.le_refl _))
        have lw21 : w20.heap.size ≤ w21.heap.size := hf.size
        have G := Lib.hid (G.out.marked hf ho Row.liv)
        clear ho hf xv hxl hxh Vw20
        have gx := G.out.val
        go_wp2_with fail
        refine (CH.out _ _ (PicO.sl G.out.o)).mono ?_
        rintro e w22 ⟨rfl, hb⟩
        have hf := Far.ofB hb
        have PW := Lib.hid (PW.out.far0 hf)
        have G := Lib.hid (G.out.far0 hf)
        have Vw22 := Lib.hid (Vw21.out.trans (hb.mono Vw21.out.size))
        have lw22 : w21.heap.size ≤ w22.heap.size := hb.size
        clear hb hf gx Vw21
        have HX : Hid (∀ W, Below w22.heap.size w22 W → Below W0.heap.size W0 W) := fun W hb => Vw22.out.trans (hb.mono Vw22.out.size)
        go_upto_region 38 with fail
        go_cut [18, 19] (fun s8 s9 wx => ∃ (bw : Nat) (ao : Option Addr) (n cap lo hi H : Nat), s8 = .pointer (some ⟨bw, 0, none⟩) ∧ s9 = .bool ok ∧ VarO (PicO lo hi (.slice ao n cap) P) 30 bw (.slice ao n cap) lo hi w22.heap.size H wx ∧ H ≤ wx.heap.size ∧ Below w22.heap.size w22 wx)
        case first =>
          go_region_held3 (fun w' => w'.cell? ⟨w.heap.size, 0, none⟩ = some u0 ∧ w'.cell? ⟨w.heap.size + 1, 0, none⟩ = some u1 ∧ w'.cell? ⟨w.heap.size + 1 + 1, 0, none⟩ = some u2)
            (first | exact HC.out _ (HX.out _ (Below.refl _ _)) | exact HC.out _ (HX.out _ (Below.refl w22.heap.size w22).drew) | exact HC.out _ (HX.out _ (((Below.refl w22.heap.size w22).drew).alloc (Nat.le_refl _) _)) | exact HC.out _ (HX.out _ hB1) | exact HC.out _ (HX.out _ (hB1.alloc hB1.size _)) | exact HC.out _ (HX.out _ hB2) | exact HC.out _ (HX.out _ (hB2.alloc hB2.size _)) | exact HC.out _ (HX.out _ hB3) | exact HC.out _ (HX.out _ (hB3.alloc hB3.size _)) | exact HC.out _ (HX.out _ hB4) | exact HC.out _ (HX.out _ (hB4.alloc hB4.size _)) | exact HC.out _ (HX.out _ (hB4.setCell (p := ⟨w22.heap.size, 0, none⟩) (Nat.le_refl _) _)) | exact HC.out _ (HX.out _ (hB4.setCell (p := ⟨wa1.heap.size, 0, none⟩) hB1.size _)) | exact HC.out _ (HX.out _ (hB4.setCell (p := ⟨wa2.heap.size, 0, none⟩) hB2.size _)) | exact HC.out _ (HX.out _ (hB4.setCell (p := ⟨wa3.heap.size, 0, none⟩) hB3.size _)))
            (first
              | (go_at_call 14; refine (HTA0.out _ (HX.out _ (by first | exact (Below.refl w22.heap.size w22).drew | exact ((Below.refl w22.heap.size w22).drew).alloc (Nat.le_refl _) _))).mono ?_; rintro e wa1 ⟨g1, cap1, rfl, hown1, hb1⟩; have hB1 : Below w22.heap.size w22 wa1 := (by first | exact ((Below.refl w22.heap.size w22).drew).trans (hb1.mono (Nat.le_refl _)) | exact (((Below.refl w22.heap.size w22).drew).alloc (Nat.le_refl _) _).trans (hb1.mono (by simp))))
              | (go_at_call 15; refine (HTA1.out _ (HX.out _ (by first | exact hB1 | exact hB1.alloc hB1.size _))).mono ?_; rintro e wa2 ⟨g2, cap2, rfl, hown2, hb2⟩; have hB2 : Below w22.heap.size w22 wa2 := (by first | exact hB1.trans (hb2.mono hB1.size) | exact (hB1.alloc hB1.size _).trans (hb2.mono (by have := hB1.size; simp; omega))))
              | (go_at_call 15; refine (HTA2.out _ (HX.out _ (by first | exact hB2 | exact hB2.alloc hB2.size _))).mono ?_; rintro e wa3 ⟨g3, cap3, rfl, hown3, hb3⟩; have hB3 : Below w22.heap.size w22 wa3 := (by first | exact hB2.trans (hb3.mono hB2.size) | exact (hB2.alloc hB2.size _).trans (hb3.mono (by have := hB2.size; simp; omega))))
              | (go_at_call 29; refine (CI.out _ _ _ _ (by first | exact ((PicO.sl (PicO.of hown1 (Nat.le_refl _))).below hb2).below hb3 | exact (((PicO.sl (PicO.of hown1 (Nat.le_refl _))).below (Joins.below_alloc1 _ _)).below hb2).below hb3 | exact (((PicO.sl (PicO.of hown1 (Nat.le_refl _))).below hb2).below (Joins.below_alloc1 _ _)).below hb3 | exact (((PicO.sl (PicO.of hown1 (Nat.le_refl _))).below hb2).below hb3).below (Joins.below_alloc1 _ _)) (by first | exact (ElO.sl (ElO.of hown2 (Nat.le_refl _))).below hb3 | exact ((ElO.sl (ElO.of hown2 (Nat.le_refl _))).below (Joins.below_alloc1 _ _)).below hb3 | exact ((ElO.sl (ElO.of hown2 (Nat.le_refl _))).below hb3).below (Joins.below_alloc1 _ _)) (by first | exact ElO.sl (ElO.of hown3 (Nat.le_refl _)) | exact (ElO.sl (ElO.of hown3 (Nat.le_refl _))).below (Joins.below_alloc1 _ _)) (own_capA hown2) (own_capA hown3) (HEN.out _ (HB.out _ (HX.out _ (by first | exact hB3 | exact hB3.alloc hB3.size _))))).mono ?_; rintro e wa4 ⟨ao5, n5, cap5, rfl, h5, hb4⟩; have hB4 : Below w22.heap.size w22 wa4 := (by first | exact hB3.trans (hb4.mono hB3.size) | exact (hB3.alloc hB3.size _).trans (hb4.mono (by have := hB3.size; simp; omega))); (first
                  | (have hq5 : wa4.heap[wa3.heap.size]? = some (.cells #[.slice none 0 0] 30 (0, 0)) := (hb4.block _ (by simp)).trans (heap_alloc_last wa3 _); have hcq := cell_of_one hq5; have hfq := free_of_one hq5)
                  | (have hq5 : wa4.heap[wa2.heap.size]? = some (.cells #[.slice none 0 0] 30 (0, 0)) := (hb4.block _ (by have h3 := hb3.size; simp at h3; omega)).trans ((hb3.block _ (by simp)).trans (heap_alloc_last wa2 _)); have hcq := cell_of_one hq5; have hfq := free_of_one hq5)
                  | (have hq5 : wa4.heap[wa1.heap.size]? = some (.cells #[.slice none 0 0] 30 (0, 0)) := (hb4.block _ (by have h2 := hb2.size; have h3 := hb3.size; simp at h2; omega)).trans ((hb3.block _ (by have h2 := hb2.size; simp at h2; omega)).trans ((hb2.block _ (by simp)).trans (heap_alloc_last wa1 _))); have hcq := cell_of_one hq5; have hfq := free_of_one hq5)
                  | (have hq5 : wa4.heap[w22.heap.size]? = some (.cells #[.slice none 0 0] 30 (0, 0)) := (hb4.block _ (by have h1 := hb1.size; have h2 := hb2.size; have h3 := hb3.size; simp at h1; omega)).trans ((hb3.block _ (by have h1 := hb1.size; have h2 := hb2.size; simp at h1; omega)).trans ((hb2.block _ (by have h1 := hb1.size; simp at h1; omega)).trans ((hb1.block _ (by simp)).trans (heap_alloc_last w22.drew _)))); have hcq := cell_of_one hq5; have hfq := free_of_one hq5)
                  | skip)))
          all_goals (go_wp2_with fail; go_meet)
          all_goals first
            | exact ⟨wa4.heap.size, ao5, n5, cap5, _, wa4.heap.size, wa4.heap.size + 1, rfl, rfl, VarO.new (PicO.of h5 (Nat.le_refl _)) Row.liv (Nat.le_refl _) (far_alloc _ _) (by first | exact hB3.size | (have := hB3.size; simp; omega) | simp) hB4.size, by simp, hB4.alloc hB4.size _⟩
            | exact ⟨wa3.heap.size, ao5, n5, cap5, _, wa4.heap.size, wa4.heap.size, rfl, rfl, VarO.set ((hb4.block _ (by simp)).trans (heap_alloc_last wa3 _)) (PicO.of h5 (Nat.le_refl _)) Row.liv (Or.inl (by have z4 := hb4.size; (try simp at z4); (try simp only [World.size_alloc]); omega)) (by first | exact hB3.size | (have := hB3.size; simp; omega) | simp) (Nat.le_refl _) hB3.size (by have z4 := hb4.size; (try simp at z4); (try simp only [World.size_alloc]); omega), by simp [World.setCell], hB4.setCell (p := ⟨wa3.heap.size, 0, none⟩) hB3.size _⟩
            | exact ⟨wa2.heap.size, ao5, n5, cap5, _, wa4.heap.size, wa4.heap.size, rfl, rfl, VarO.set ((hb4.block _ (by have h3 := hb3.size; simp at h3; omega)).trans ((hb3.block _ (by simp)).trans (heap_alloc_last wa2 _))) (PicO.of h5 (Nat.le_refl _)) Row.liv (Or.inl (by have z3 := hb3.size; have z4 := hb4.size; (try simp at z3); (try simp at z4); (try simp only [World.size_alloc]); omega)) (by first | exact hB3.size | (have := hB3.size; simp; omega) | simp) (Nat.le_refl _) hB2.size (by have z3 := hb3.size; have z4 := hb4.size; (try simp at z3); (try simp at z4); (try simp only [World.size_alloc]); omega), by simp [World.setCell], hB4.setCell (p := ⟨wa2.heap.size, 0, none⟩) hB2.size _⟩
            | exact ⟨wa1.heap.size, ao5, n5, cap5, _, wa4.heap.size, wa4.heap.size, rfl, rfl, VarO.set ((hb4.block _ (by have h2 := hb2.size; have h3 := hb3.size; simp at h2; omega)).trans ((hb3.block _ (by have h2 := hb2.size; simp at h2; omega)).trans ((hb2.block _ (by simp)).trans (heap_alloc_last wa1 _)))) (PicO.of h5 (Nat.le_refl _)) Row.liv (Or.inl (by have z2 := hb2.size; have z3 := hb3.size; have z4 := hb4.size; (try simp at z2); (try simp at z3); (try simp at z4); (try simp only [World.size_alloc]); omega)) (by first | exact hB3.size | (have := hB3.size; simp; omega) | simp) (Nat.le_refl _) hB1.size (by have z2 := hb2.size; have z3 := hb3.size; have z4 := hb4.size; (try simp at z2); (try simp at z3); (try simp at z4); (try simp only [World.size_alloc]); omega), by simp [World.setCell], hB4.setCell (p := ⟨wa1.heap.size, 0, none⟩) hB1.size _⟩
            | exact ⟨w22.heap.size, ao5, n5, cap5, _, wa4.heap.size, wa4.heap.size, rfl, rfl, VarO.set ((hb4.block _ (by have h1 := hb1.size; have h2 := hb2.size; have h3 := hb3.size; simp at h1; omega)).trans ((hb3.block _ (by have h1 := hb1.size; have h2 := hb2.size; simp at h1; omega)).trans ((hb2.block _ (by have h1 := hb1.size; simp at h1; omega)).trans ((hb1.block _ (by simp)).trans (heap_alloc_last w22.drew _))))) (PicO.of h5 (Nat.le_refl _)) Row.liv (Or.inl (by have z1 := hb1.size; have z2 := hb2.size; have z3 := hb3.size; have z4 := hb4.size; (try simp at z1); (try simp at z2); (try simp at z3); (try simp at z4); (try simp only [World.size_alloc]); omega)) (by first | exact hB3.size | (have := hB3.size; simp; omega) | simp) (Nat.le_refl _) (Nat.le_refl _) (by have z1 := hb1.size; have z2 := hb2.size; have z3 := hb3.size; have z4 := hb4.size; (try simp at z1); (try simp at z2); (try simp at z3); (try simp at z4); (try simp only [World.size_alloc]); omega), by simp [World.setCell], hB4.setCell (p := ⟨w22.heap.size, 0, none⟩) (Nat.le_refl _) _⟩
        obtain ⟨b9, ao9, n9, cap9, lo9, hi9, H9, rfl, rfl, hp9, hH9, hbx⟩ := hcut
        have HH := Lib.hid hp9
        have hf := Far.ofB hbx
        have PW := Lib.hid (PW.out.far0 hf)
        have G := Lib.hid (G.out.far0 hf)
        have Vd := Lib.hid (HX.out _ hbx)
        clear hp9 hbx HX hf Vw22
        have gv := HH.out.val
        have pv := PW.out.val
        go_wp2_with fail
        refine (CE.out _ _ _ (PicO.sl HH.out.o) (PicO.sl PW.out.o)).mono ?_
        rintro e w23 ⟨rfl, hb⟩
        have hf := Far.ofB hb
        have G := Lib.hid (G.out.far0 hf)
        have Vw23 := Lib.hid (Vd.out.trans (hb.mono Vd.out.size))
        clear hb hf gv pv Vd HH PW
        have gx := G.out.val
        go_wp2_with fail
        refine (CH.out _ _ (PicO.sl G.out.o)).mono ?_
        rintro e w24 ⟨rfl, hb⟩
        have Vw24 := Lib.hid (Vw23.out.trans (hb.mono Vw23.out.size))
        clear hb gx Vw23
        go_wp2
        go_ret
        exact ⟨rfl, HB.out _ Vw24.out⟩
end Go.Proofs.YtenbhnfajjknkaaDoor
