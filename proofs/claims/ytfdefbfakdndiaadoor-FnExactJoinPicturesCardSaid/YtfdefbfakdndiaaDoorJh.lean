/- Contracts of single functions, and plain lemmas, on which the exact laws of this seat rest; each holds under the conditions that it states. -/
import Derived.Test.YtfdefbfakdndiaaDoorJd
import Derived.Test.YtfdefbfakdndiaaDoorJf
import Derived.Test.YtfdefbfakdndiaaDoorJg
import Derived.Test.YtfdefbfakdndiaaDoorBq
import Derived.Test.YtfdefbfakdndiaaDoorPa
import Derived.Deep.DeepCutAuto
namespace Go.Proofs.YtfdefbfakdndiaaDoor
set_option linter.unusedVariables false
set_option linter.unusedSimpArgs false
open Go.RowKit

theorem pic_set {W : World} {q lo : Nat} {x u : Value} {P : List ByteArray} (hq : W.heap[q]? = some (.cells #[x] 28 (0, 0))) (h : OwnP W lo u P) : Pic1 (W.setCell ⟨q, 0, none⟩ u) q lo W.heap.size u P :=
  ⟨one_setCell hq, own_set h hq (by decide), fun j hj => (h.lt j hj).2⟩

set_option maxHeartbeats 12000000 in
set_option maxRecDepth 100000 in
theorem law_JoinPictures (op : Int) (u v : Value) (ss tt : List ByteArray) (w : World) (hN : ss.length ≤ maxLen) (hz : ∀ s ∈ ss, s.size ≤ maxLen) (hu : Sl w u ss) (hN2 : tt.length ≤ maxLen) (hz2 : ∀ s ∈ tt, s.size ≤ maxLen) (hv : Sl w v tt) (he : ErrLen w) :
    Calls Tryd.prog 6 #[.int .i64 op, .agg #[u], .agg #[v]] w fun e w' => e = .returned (.bool true) ∧ Below w.heap.size w w' := by
  have HSL : Hid (∀ W, Below w.heap.size w W → Sl W u ss) := fun W hb => hu.below hb
  have HSL2 : Hid (∀ W, Below w.heap.size w W → Sl W v tt) := fun W hb => hv.below hb
  have HEL : Hid (∀ W, Below w.heap.size w W → ErrLen W) := fun W hb => he.below hb
  have b0 := Joins.below_alloc2 w (.cells #[u] 24) (.cells #[v] 24)
  have hc0 : ((w.alloc (.cells #[u] 24)).alloc (.cells #[v] 24)).cell? ⟨w.heap.size, 0, none⟩ = some u := cell_of_one (t := 24) (by rw [Below.heap_alloc _ _ _ (by simp)]; exact heap_alloc_last w _)
  have hd0 : ((w.alloc (.cells #[u] 24)).alloc (.cells #[v] 24)).cell? ⟨w.heap.size + 1, 0, none⟩ = some v := cell_of_one (heap_alloc2_new _ _ _)
  have C0 := Lib.hid (szPicture_any u ss 1048576 _ (by omega) (by omega) hN hz (HSL.out _ b0))
  have HZ2 : Hid (∀ (left : Int) W, 0 ≤ left → left ≤ 1048576 → Below w.heap.size w W → Calls Tryd.prog 13 #[.agg #[v], .int .i64 left] W (SomeSz left tt W)) := fun left W h0 h1 hb => szPicture_any v tt left W h0 h1 hN2 hz2 (HSL2.out _ hb)
  have B0 := Lib.hid b0
  obtain ⟨P, ok, hPl, hS, hI⟩ : ∃ (P : List ByteArray) (ok : Bool), P.length ≤ 16 ∧ (∀ x y W, Sl W x ss → Sl W y tt → Calls Tryd.prog 29 #[.int .i64 op, .agg #[x], .agg #[y]] W (SaysPic P ok W)) ∧ (∀ x y W, Sl W x ss → Sl W y tt → ErrLen W → Calls Tryd.prog 30 #[.int .i64 op, .agg #[x], .agg #[y]] W (SaysPic P ok W)) := by
    cases hp : (inB op 0 3 && likeB ss tt) with
    | false => exact ⟨[], false, by simp, fun x y W hx hy => spec_Join_no op x y ss tt W hN hz hx hN2 hz2 hy hp, fun x y W hx hy hw => impl_Join_no op x y ss tt W hN hz hx hN2 hz2 hy hw hp⟩
    | true =>
      simp only [Bool.and_eq_true] at hp
      obtain ⟨hk, hl⟩ := hp
      unfold inB at hk
      simp only [Bool.and_eq_true, decide_eq_true_eq] at hk
      have h4 := hl
      unfold likeB at h4
      simp only [Bool.and_eq_true] at h4
      have hn := (vp_of h4.1.1.1).n16
      have hc : op = 0 ∨ op = 1 ∨ op = 2 ∨ op = 3 := by omega
      rcases hc with rfl | rfl | rfl | rfl
      · exact ⟨mkPic (row0 ss).size ss.length (joF jF0 ss tt), true, by rw [mkPic_len]; exact hn, fun x y W hx hy => spec_Join_0 x y ss tt W hN hz hx hN2 hz2 hy hl, fun x y W hx hy hw => impl_Join_0 x y ss tt W hN hz hx hN2 hz2 hy hw hl⟩
      · exact ⟨mkPic (row0 ss).size ss.length (joF jF1 ss tt), true, by rw [mkPic_len]; exact hn, fun x y W hx hy => spec_Join_1 x y ss tt W hN hz hx hN2 hz2 hy hl, fun x y W hx hy hw => impl_Join_1 x y ss tt W hN hz hx hN2 hz2 hy hw hl⟩
      · exact ⟨mkPic (row0 ss).size ss.length (joF jF2 ss tt), true, by rw [mkPic_len]; exact hn, fun x y W hx hy => spec_Join_2 x y ss tt W hN hz hx hN2 hz2 hy hl, fun x y W hx hy hw => impl_Join_2 x y ss tt W hN hz hx hN2 hz2 hy hw hl⟩
      · exact ⟨mkPic (row0 ss).size ss.length (joF jF3 ss tt), true, by rw [mkPic_len]; exact hn, fun x y W hx hy => spec_Join_3 x y ss tt W hN hz hx hN2 hz2 hy hl, fun x y W hx hy hw => impl_Join_3 x y ss tt W hN hz hx hN2 hz2 hy hw hl⟩
  have CS := Lib.hid hS
  have CI := Lib.hid hI
  have CE1 : Hid (∀ x y W, Sl W x ss → Sl W y ss → Calls Tryd.prog 17 #[.agg #[x], .agg #[y]] W (SaysB true W)) := fun x y W hx hy => by
    have := eqPicture_any x y ss ss W hN hN hx hy
    rwa [sameL_self] at this
  have CE2 : Hid (∀ x y W, Sl W x tt → Sl W y tt → Calls Tryd.prog 17 #[.agg #[x], .agg #[y]] W (SaysB true W)) := fun x y W hx hy => by
    have := eqPicture_any x y tt tt W hN2 hN2 hx hy
    rwa [sameL_self] at this
  have CE : Hid (∀ x y W, Sl W x P → Sl W y P → Calls Tryd.prog 17 #[.agg #[x], .agg #[y]] W (SaysB true W)) := fun x y W hx hy => by
    have := eqPicture_any x y P P W (by unfold maxLen; omega) (by unfold maxLen; omega) hx hy
    rwa [sameL_self] at this
  obtain ⟨m, hm0, hM, hH⟩ : ∃ m : Int, 0 ≤ m ∧ (∀ v base W, OwnP W base v P → Calls Tryd.prog 21 #[.agg #[v], .int .i64 1] W (fun e w' => e = .returned (.int .i64 m) ∧ OwnP w' base v (marks 1 P.length) ∧ W.grownBy w' v.ownBlock)) ∧ (∀ v W, Sl W v (marks 1 P.length) → Calls Tryd.prog 28 #[.agg #[v], .int .i64 1] W (fun e w' => e = .returned (.int .i64 m) ∧ Below W.heap.size W w')) :=
    ⟨((1 + P.length : Nat) : Int), by omega, fun v base W h => markPicture_any v P base 1 W (by omega) (by omega) h, fun v W h => heldPicture_any v 1 P.length W (by omega) (by omega) h⟩
  have CM := Lib.hid hM
  have CH := Lib.hid hH
  clear hu hv he b0 hS hI hM hH hPl
  go_enter Tryd.func6, Tryd.ntmps6
  go_wp2_with fail
  refine C0.out.mono ?_
  rintro e w1 ⟨r, rfl, hr1, hr2, hr3, hb1⟩
  by_cases hr : r < 0
  · have HB1 := Lib.hid hb1
    clear hb1 hr3
    go_wp2_with fail
    go_ret
    exact ⟨rfl, B0.out.trans (HB1.out.mono (by simp; omega))⟩
  · have hsm : ss.length ≤ 1048576 := by have := (hr3 (by omega)).1; omega
    have hc1 := cell_kept hb1 hc0
    have hd1 := cell_kept hb1 hd0
    have B1 : Hid (Below w.heap.size w w1) := B0.out.trans (hb1.mono (by simp; omega))
    have l1 : w.heap.size + 1 < w1.heap.size := by have := hb1.size; simp at this; omega
    clear hb1 hr3 hr2 hc0 hd0
    go_wp2_with fail
    refine (HZ2.out r _ (by omega) hr1 B1.out).mono ?_
    rintro e w2 ⟨r2, rfl, hq1, hq2, hq3, hb2⟩
    by_cases hr' : r2 < 0
    · have HB2 := Lib.hid hb2
      clear hb2 hq3
      go_wp2_with fail
      go_ret
      exact ⟨rfl, B1.out.trans (HB2.out.mono B1.out.size)⟩
    · have hsm2 : tt.length ≤ 1048576 := by have := (hq3 (by omega)).1; omega
      have hc2 := cell_kept hb2 hc1
      have hd2 := cell_kept hb2 hd1
      have B2 : Hid (Below w.heap.size w w2) := B1.out.trans (hb2.mono B1.out.size)
      have l2 : w.heap.size + 1 < w2.heap.size := Nat.lt_of_lt_of_le l1 hb2.size
      have HX : Hid (∀ W, Below w2.heap.size w2 W → W.cell? ⟨w.heap.size, 0, none⟩ = some u ∧ W.cell? ⟨w.heap.size + 1, 0, none⟩ = some v) := fun W hb => ⟨cell_kept hb hc2, cell_kept hb hd2⟩
      have HT1 : Hid (∀ W, Below w2.heap.size w2 W → Calls Tryd.prog 15 #[.agg #[u]] W (TookPic W ss)) := fun W hb => toPicture_any u ss W hsm (HSL.out _ (B2.out.trans (hb.mono B2.out.size)))
      have HT2 : Hid (∀ W, Below w2.heap.size w2 W → Calls Tryd.prog 15 #[.agg #[v]] W (TookPic W tt)) := fun W hb => toPicture_any v tt W hsm2 (HSL2.out _ (B2.out.trans (hb.mono B2.out.size)))
      obtain ⟨m1, q1, hm1, hq1m, hqb, hM1⟩ : ∃ (m1 : Int) (q1 : Nat), 0 ≤ m1 ∧ m1 = ((q1 : Nat) : Int) ∧ (1 ≤ q1 ∧ q1 ≤ 2000000) ∧ (∀ v base W, OwnP W base v ss → Calls Tryd.prog 21 #[.agg #[v], .int .i64 1] W (fun e w' => e = .returned (.int .i64 m1) ∧ OwnP w' base v (marks 1 ss.length) ∧ W.grownBy w' v.ownBlock)) :=
        ⟨((1 + ss.length : Nat) : Int), 1 + ss.length, by omega, rfl, by omega, fun v base W h => markPicture_any v ss base 1 W (by omega) (by omega) h⟩
      obtain ⟨m2, hm2, hM2⟩ : ∃ m2 : Int, 0 ≤ m2 ∧ (∀ v base W, OwnP W base v tt → Calls Tryd.prog 21 #[.agg #[v], .int .i64 m1] W (fun e w' => e = .returned (.int .i64 m2) ∧ OwnP w' base v (marks q1 tt.length) ∧ W.grownBy w' v.ownBlock)) :=
        ⟨((q1 + tt.length : Nat) : Int), by omega, fun v base W h => by rw [hq1m]; exact markPicture_any v tt base q1 W hqb.1 (by have := hqb.2; omega) h⟩
      have CM1 := Lib.hid hM1
      have CM2 := Lib.hid hM2
      clear hb2 hq3 hq2 hq1 hr1 hc1 hd1 hM1 hM2 hq1m hqb
      go_upto_region 8 with fail
      go_cut [8, 9] (fun s8 s9 wx => ∃ (bw : Nat) (ao : Option Addr) (n cap lo hi : Nat), s8 = .pointer (some ⟨bw, 0, none⟩) ∧ s9 = .bool ok ∧ Pic1 wx bw lo hi (.slice ao n cap) P ∧ Below w2.heap.size w2 wx ∧ w2.heap.size ≤ lo ∧ hi ≤ wx.heap.size)
      case first =>
        go_region_held3 (fun w' => w'.cell? ⟨w.heap.size, 0, none⟩ = some u ∧ w'.cell? ⟨w.heap.size + 1, 0, none⟩ = some v)
          (first | exact HX.out _ (Below.refl _ _) | exact HX.out _ (Below.refl w2.heap.size w2).drew | exact HX.out _ (((Below.refl w2.heap.size w2).drew).alloc (Nat.le_refl _) _) | exact HX.out _ hB3 | exact HX.out _ (hB3.alloc hB3.size _) | exact HX.out _ hB4 | exact HX.out _ (hB4.alloc hB4.size _) | exact HX.out _ hB5 | exact HX.out _ (hB5.alloc hB5.size _) | exact HX.out _ (hB5.setCell (p := ⟨w2.heap.size, 0, none⟩) (Nat.le_refl _) _) | exact HX.out _ (hB5.setCell (p := ⟨wa3.heap.size, 0, none⟩) hB3.size _) | exact HX.out _ (hB5.setCell (p := ⟨wa4.heap.size, 0, none⟩) hB4.size _))
          (first
            | (go_at_call 15; refine (HT1.out _ (by first | exact (Below.refl w2.heap.size w2).drew | exact ((Below.refl w2.heap.size w2).drew).alloc (Nat.le_refl _) _)).mono ?_; rintro e wa3 ⟨g3, cap3, rfl, hown3, hb3⟩; have hB3 : Below w2.heap.size w2 wa3 := (by first | exact ((Below.refl w2.heap.size w2).drew).trans (hb3.mono (Nat.le_refl _)) | exact (((Below.refl w2.heap.size w2).drew).alloc (Nat.le_refl _) _).trans (hb3.mono (by simp))))
            | (go_at_call 15; refine (HT2.out _ (by first | exact hB3 | exact hB3.alloc hB3.size _)).mono ?_; rintro e wa4 ⟨g4, cap4, rfl, hown4, hb4⟩; have hB4 : Below w2.heap.size w2 wa4 := (by first | exact hB3.trans (hb4.mono hB3.size) | exact (hB3.alloc hB3.size _).trans (hb4.mono (by have := hB3.size; simp; omega))))
            | (go_at_call 29; refine (CS.out _ _ _ (by first | exact hown3.sl.below hb4 | exact (hown3.sl.below (Joins.below_alloc1 _ _)).below hb4 | exact (hown3.sl.below hb4).below (Joins.below_alloc1 _ _)) (by first | exact hown4.sl | exact hown4.sl.below (Joins.below_alloc1 _ _))).mono ?_; rintro e wa5 ⟨ao5, n5, cap5, rfl, h5, hb5⟩; have hB5 : Below w2.heap.size w2 wa5 := (by first | exact hB4.trans (hb5.mono hB4.size) | exact (hB4.alloc hB4.size _).trans (hb5.mono (by have := hB4.size; simp; omega))); (first
                | (have hq5 : wa5.heap[wa4.heap.size]? = some (.cells #[.slice none 0 0] 28 (0, 0)) := (hb5.block _ (by simp)).trans (heap_alloc_last wa4 _); have hcq := cell_of_one hq5; have hfq := free_of_one hq5)
                | (have hq5 : wa5.heap[wa3.heap.size]? = some (.cells #[.slice none 0 0] 28 (0, 0)) := (hb5.block _ (by have := hb4.size; simp at this; omega)).trans ((hb4.block _ (by simp)).trans (heap_alloc_last wa3 _)); have hcq := cell_of_one hq5; have hfq := free_of_one hq5)
                | (have hq5 : wa5.heap[w2.heap.size]? = some (.cells #[.slice none 0 0] 28 (0, 0)) := (hb5.block _ (by have h1 := hb4.size; have h2 := hb3.size; simp at h2; omega)).trans ((hb4.block _ (by have h2 := hb3.size; simp at h2; omega)).trans ((hb3.block _ (by simp)).trans (heap_alloc_last w2.drew _))); have hcq := cell_of_one hq5; have hfq := free_of_one hq5)
                | skip)))
        all_goals (go_wp2_with fail; go_meet)
        all_goals first
          | exact ⟨wa5.heap.size, ao5, n5, cap5, wa4.heap.size, wa5.heap.size, rfl, rfl, Pic1.new h5, hB5.alloc hB5.size _, hB4.size, by simp⟩
          | exact ⟨wa4.heap.size, ao5, n5, cap5, _, wa5.heap.size, rfl, rfl, pic_set ((hb5.block _ (by simp)).trans (heap_alloc_last wa4 _)) h5, hB5.setCell (p := ⟨wa4.heap.size, 0, none⟩) hB4.size _, by have := hB4.size; simp; omega, by simp [World.setCell]⟩
          | exact ⟨wa3.heap.size, ao5, n5, cap5, _, wa5.heap.size, rfl, rfl, pic_set ((hb5.block _ (by have := hb4.size; simp at this; omega)).trans ((hb4.block _ (by simp)).trans (heap_alloc_last wa3 _))) h5, hB5.setCell (p := ⟨wa3.heap.size, 0, none⟩) hB3.size _, hB4.size, by simp [World.setCell]⟩
          | exact ⟨w2.heap.size, ao5, n5, cap5, _, wa5.heap.size, rfl, rfl, pic_set ((hb5.block _ (by have h1 := hb4.size; have h2 := hb3.size; simp at h2; omega)).trans ((hb4.block _ (by have h2 := hb3.size; simp at h2; omega)).trans ((hb3.block _ (by simp)).trans (heap_alloc_last w2.drew _)))) h5, hB5.setCell (p := ⟨w2.heap.size, 0, none⟩) (Nat.le_refl _) _, hB4.size, by simp [World.setCell]⟩
      obtain ⟨b5, ao5, n5, cap5, lo5, hi5, rfl, rfl, hp5, hb25, hlo, hhi⟩ := hcut
      have PW5 := Lib.hid hp5
      have B5 : Hid (Below w.heap.size w wc) := B2.out.trans (hb25.mono B2.out.size)
      have hcd5 := HX.out _ hb25
      have hc5 := hcd5.1
      have hd5 := hcd5.2
      have lw : w2.heap.size ≤ wc.heap.size := hb25.size
      clear hb25 hcd5 HX hc2 hd2 HT1 HT2 hp5
      go_wp2_with fail
      refine (toPicture_any u ss _ hsm (HSL.out _ B5.out)).mono ?_
      rintro e w6 ⟨g6, cap6, rfl, hown6, hb6⟩
      have X6 := Lib.hid (Pic1.new hown6)
      have l56 : wc.heap.size ≤ w6.heap.size := hb6.size
      have hba := hb6.trans ((Joins.below_alloc1 w6 (.cells #[.slice (some ⟨g6, 0, none⟩) ss.length cap6] 28)).mono hb6.size)
      have PW6 := Lib.hid (PW5.out.below hba)
      have B6 := Lib.hid (B5.out.trans (hba.mono B5.out.size))
      have hc6 := cell_kept hba hc5
      have hd6 := cell_kept hba hd5
      clear hb6 hba hown6 hc5 hd5 PW5
      go_wp2_with fail
      refine (toPicture_any v tt _ hsm2 (HSL2.out _ B6.out)).mono ?_
      rintro e w7 ⟨g7, cap7, rfl, hown7, hb7⟩
      have Y7 := Lib.hid (Pic1.new hown7)
      have l67 : w6.heap.size + 1 ≤ w7.heap.size := by have := hb7.size; simpa using this
      have hba := hb7.trans ((Joins.below_alloc1 w7 (.cells #[.slice (some ⟨g7, 0, none⟩) tt.length cap7] 28)).mono hb7.size)
      have X7 := Lib.hid (X6.out.below hba)
      have PW7 := Lib.hid (PW6.out.below hba)
      have B7 := Lib.hid (B6.out.trans (hba.mono B6.out.size))
      have hc7 := cell_kept hba hc6
      have hd7 := cell_kept hba hd6
      have x7 := X7.out.v
      have y7 := Y7.out.v
      clear hb7 hba hown7 hc6 hd6 X6 PW6
      go_wp2_with fail
      refine (CI.out _ _ _ X7.out.sl Y7.out.sl (HEL.out _ B7.out)).mono ?_
      rintro e w8 ⟨ao8, n8, cap8, rfl, h8, hb8⟩
      have G8 := Lib.hid (Pic1.new h8)
      have l78 : w7.heap.size + 1 ≤ w8.heap.size := by have := hb8.size; simpa using this
      have hba := hb8.trans ((Joins.below_alloc1 w8 (.cells #[.slice ao8 n8 cap8] 28)).mono hb8.size)
      have X8 := Lib.hid (X7.out.below hba)
      have Y8 := Lib.hid (Y7.out.below hba)
      have PW8 := Lib.hid (PW7.out.below hba)
      have B8 := Lib.hid (B7.out.trans (hba.mono B7.out.size))
      have hc8 := cell_kept hba hc7
      have hd8 := cell_kept hba hd7
      have gv := G8.out.v
      have pv := PW8.out.v
      clear hb8 hba h8 hc7 hd7 X7 Y7 PW7 x7 y7
      go_wp2_with fail
      refine (CE.out _ _ _ G8.out.sl PW8.out.sl).mono ?_
      rintro e w9 ⟨rfl, hb9⟩
      have G9 := Lib.hid (G8.out.below hb9)
      have X9 := Lib.hid (X8.out.below hb9)
      have Y9 := Lib.hid (Y8.out.below hb9)
      have PW9 := Lib.hid (PW8.out.below hb9)
      have B9 := Lib.hid (B8.out.trans (hb9.mono B8.out.size))
      have hc9 := cell_kept hb9 hc8
      have hd9 := cell_kept hb9 hd8
      have HX : Hid (∀ W, Below w9.heap.size w9 W → W.cell? ⟨w.heap.size, 0, none⟩ = some u ∧ W.cell? ⟨w6.heap.size, 0, none⟩ = some (.slice (some ⟨g6, 0, none⟩) ss.length cap6)) := fun W hb => ⟨cell_kept hb hc9, (X9.out.below hb).v⟩
      have HT1 : Hid (∀ W, Below w9.heap.size w9 W → Calls Tryd.prog 15 #[.agg #[u]] W (TookPic W ss)) := fun W hb => toPicture_any u ss W hsm (HSL.out _ (B9.out.trans (hb.mono B9.out.size)))
      have HE1 : Hid (∀ W x, Below w9.heap.size w9 W → Sl W x ss → Calls Tryd.prog 17 #[.agg #[.slice (some ⟨g6, 0, none⟩) ss.length cap6], .agg #[x]] W (SaysB true W)) := fun W x hb hx => CE1.out _ x W (X9.out.below hb).sl hx
      clear hb9 hc8 hd8 G8 X8 Y8 PW8 gv pv
      go_wp2_with fail
      go_region_held3 (fun w' => w'.cell? ⟨w.heap.size, 0, none⟩ = some u ∧ w'.cell? ⟨w6.heap.size, 0, none⟩ = some (.slice (some ⟨g6, 0, none⟩) ss.length cap6))
        (first | exact HX.out _ (Below.refl _ _) | exact HX.out _ (Below.refl _ _).drew | exact HX.out _ ((Below.refl _ _).drew.trans hba) | exact HX.out _ (((Below.refl _ _).drew.trans hba).trans (hbb.mono hba.size)))
        (first | (go_at_call 15; refine (HT1.out _ (Below.refl _ _).drew).mono ?_; rintro e w10 ⟨ga, capa, rfl, howna, hba⟩) | (go_at_call 17; refine (HE1.out _ _ ((Below.refl _ _).drew.trans hba) howna.sl).mono ?_; rintro e w11 ⟨rfl, hbb⟩))
      have hbc := (Below.refl w9.heap.size w9).drew.trans (hba.trans (hbb.mono hba.size))
      have G11 := Lib.hid (G9.out.below hbc)
      have X11 := Lib.hid (X9.out.below hbc)
      have Y11 := Lib.hid (Y9.out.below hbc)
      have PW11 := Lib.hid (PW9.out.below hbc)
      have B11 : Hid (Below w.heap.size w w11) := B9.out.trans (hbc.mono B9.out.size)
      have hc11 := cell_kept hbc hc9
      have hd11 := cell_kept hbc hd9
      have HX2 : Hid (∀ W, Below w11.heap.size w11 W → W.cell? ⟨w.heap.size + 1, 0, none⟩ = some v ∧ W.cell? ⟨w7.heap.size, 0, none⟩ = some (.slice (some ⟨g7, 0, none⟩) tt.length cap7)) := fun W hb => ⟨cell_kept hb hd11, (Y11.out.below hb).v⟩
      have HT2 : Hid (∀ W, Below w11.heap.size w11 W → Calls Tryd.prog 15 #[.agg #[v]] W (TookPic W tt)) := fun W hb => toPicture_any v tt W hsm2 (HSL2.out _ (B11.out.trans (hb.mono B11.out.size)))
      have HE2 : Hid (∀ W x, Below w11.heap.size w11 W → Sl W x tt → Calls Tryd.prog 17 #[.agg #[.slice (some ⟨g7, 0, none⟩) tt.length cap7], .agg #[x]] W (SaysB true W)) := fun W x hb hx => CE2.out _ x W (Y11.out.below hb).sl hx
      clear hba hbb hbc howna hc9 hd9 HX HT1 HE1 G9 X9 Y9 PW9
      go_wp2_with fail
      go_region_held3 (fun w' => w'.cell? ⟨w.heap.size + 1, 0, none⟩ = some v ∧ w'.cell? ⟨w7.heap.size, 0, none⟩ = some (.slice (some ⟨g7, 0, none⟩) tt.length cap7))
        (first | exact HX2.out _ (Below.refl _ _) | exact HX2.out _ (Below.refl _ _).drew | exact HX2.out _ ((Below.refl _ _).drew.trans hba) | exact HX2.out _ (((Below.refl _ _).drew.trans hba).trans (hbb.mono hba.size)))
        (first | (go_at_call 15; refine (HT2.out _ (Below.refl _ _).drew).mono ?_; rintro e w12 ⟨ga, capa, rfl, howna, hba⟩) | (go_at_call 17; refine (HE2.out _ _ ((Below.refl _ _).drew.trans hba) howna.sl).mono ?_; rintro e w13 ⟨rfl, hbb⟩))
      have hbc := (Below.refl w11.heap.size w11).drew.trans (hba.trans (hbb.mono hba.size))
      have G13 := Lib.hid (G11.out.below hbc)
      have X13 := Lib.hid (X11.out.below hbc)
      have Y13 := Lib.hid (Y11.out.below hbc)
      have PW13 := Lib.hid (PW11.out.below hbc)
      have B13 : Hid (Below w.heap.size w w13) := B11.out.trans (hbc.mono B11.out.size)
      have hc13 := cell_kept hbc hc11
      have hd13 := cell_kept hbc hd11
      have xv := X13.out.v
      clear hba hbb hbc howna hc11 hd11 HX2 HT2 HE2 G11 X11 Y11 PW11
      go_wp2_with fail
      refine (CM1.out _ _ _ X13.out.o).mono ?_
      rintro e w14 ⟨rfl, ho, hg⟩
      have X14 := Lib.hid (X13.out.marked ho hg)
      have PW14 := Lib.hid (PW13.out.other X13.out (Or.inl hhi) hg)
      have Y14 := Lib.hid (Y13.out.other X13.out (Or.inr (by simp)) hg)
      have G14 := Lib.hid (G13.out.other X13.out (Or.inr (by simp; omega)) hg)
      have B14 := Lib.hid (X13.out.grow B5.out.size B13.out hg)
      have hc14 := X13.out.argcell hc13 (by omega) hg
      have hd14 := X13.out.argcell hd13 (by omega) hg
      have yv := Y14.out.v
      clear ho hg hc13 hd13 xv X13 PW13 Y13 G13
      go_wp2_with fail
      refine (CM2.out _ _ _ Y14.out.o).mono ?_
      rintro e w15 ⟨rfl, ho, hg⟩
      have PW15 := Lib.hid (PW14.out.other Y14.out (Or.inl (by simp; omega)) hg)
      have G15 := Lib.hid (G14.out.other Y14.out (Or.inr (by simp)) hg)
      have B15 := Lib.hid (Y14.out.grow B6.out.size B14.out hg)
      have hc15 := Y14.out.argcell hc14 (by simp; omega) hg
      have hd15 := Y14.out.argcell hd14 (by simp; omega) hg
      have gv := G15.out.v
      have pv := PW15.out.v
      clear ho hg hc14 hd14 yv X14 PW14 Y14 G14
      go_wp2_with fail
      refine (CE.out _ _ _ G15.out.sl PW15.out.sl).mono ?_
      rintro e w16 ⟨rfl, hb16⟩
      have G16 := Lib.hid (G15.out.below hb16)
      have PW16 := Lib.hid (PW15.out.below hb16)
      have B16 := Lib.hid (B15.out.trans (hb16.mono B15.out.size))
      have hc16 := cell_kept hb16 hc15
      have hd16 := cell_kept hb16 hd15
      have gw := G16.out.v
      clear hb16 hc15 hd15 gv pv G15 PW15
      go_wp2_with fail
      refine (CM.out _ _ _ G16.out.o).mono ?_
      rintro e w17 ⟨rfl, ho, hg⟩
      have G17 := Lib.hid (G16.out.marked ho hg)
      have PW17 := Lib.hid (PW16.out.other G16.out (Or.inl (by simp; omega)) hg)
      have B17 := Lib.hid (G16.out.grow B7.out.size B16.out hg)
      have hc17 := G16.out.argcell hc16 (by simp; omega) hg
      have hd17 := G16.out.argcell hd16 (by simp; omega) hg
      have gx := G17.out.v
      clear ho hg hc16 hd16 gw G16 PW16
      go_wp2_with fail
      refine (CH.out _ _ G17.out.sl).mono ?_
      rintro e w18 ⟨rfl, hb18⟩
      have G18 := Lib.hid (G17.out.below hb18)
      have PW18 := Lib.hid (PW17.out.below hb18)
      have B18 := Lib.hid (B17.out.trans (hb18.mono B17.out.size))
      have hc18 := cell_kept hb18 hc17
      have hd18 := cell_kept hb18 hd17
      have HX : Hid (∀ W, Below w18.heap.size w18 W → W.cell? ⟨w.heap.size, 0, none⟩ = some u ∧ W.cell? ⟨w.heap.size + 1, 0, none⟩ = some v) := fun W hb => ⟨cell_kept hb hc18, cell_kept hb hd18⟩
      have HT1 : Hid (∀ W, Below w18.heap.size w18 W → Calls Tryd.prog 15 #[.agg #[u]] W (TookPic W ss)) := fun W hb => toPicture_any u ss W hsm (HSL.out _ (B18.out.trans (hb.mono B18.out.size)))
      have HT2 : Hid (∀ W, Below w18.heap.size w18 W → Calls Tryd.prog 15 #[.agg #[v]] W (TookPic W tt)) := fun W hb => toPicture_any v tt W hsm2 (HSL2.out _ (B18.out.trans (hb.mono B18.out.size)))
      have HE3 : Hid (∀ W, Below w18.heap.size w18 W → ErrLen W) := fun W hb => HEL.out _ (B18.out.trans (hb.mono B18.out.size))
      clear hb18 hc17 hd17 gx G17 PW17
      go_upto_region 31 with fail
      go_cut [17, 18] (fun s8 s9 wx => ∃ (bw : Nat) (ao : Option Addr) (n cap lo hi : Nat), s8 = .pointer (some ⟨bw, 0, none⟩) ∧ s9 = .bool ok ∧ Pic1 wx bw lo hi (.slice ao n cap) P ∧ Below w18.heap.size w18 wx ∧ w18.heap.size ≤ lo ∧ hi ≤ wx.heap.size)
      case first =>
        go_region_held3 (fun w' => w'.cell? ⟨w.heap.size, 0, none⟩ = some u ∧ w'.cell? ⟨w.heap.size + 1, 0, none⟩ = some v)
          (first | exact HX.out _ (Below.refl _ _) | exact HX.out _ (Below.refl w18.heap.size w18).drew | exact HX.out _ (((Below.refl w18.heap.size w18).drew).alloc (Nat.le_refl _) _) | exact HX.out _ hB3 | exact HX.out _ (hB3.alloc hB3.size _) | exact HX.out _ hB4 | exact HX.out _ (hB4.alloc hB4.size _) | exact HX.out _ hB5 | exact HX.out _ (hB5.alloc hB5.size _) | exact HX.out _ (hB5.setCell (p := ⟨w18.heap.size, 0, none⟩) (Nat.le_refl _) _) | exact HX.out _ (hB5.setCell (p := ⟨wa3.heap.size, 0, none⟩) hB3.size _) | exact HX.out _ (hB5.setCell (p := ⟨wa4.heap.size, 0, none⟩) hB4.size _))
          (first
            | (go_at_call 15; refine (HT1.out _ (by first | exact (Below.refl w18.heap.size w18).drew | exact ((Below.refl w18.heap.size w18).drew).alloc (Nat.le_refl _) _)).mono ?_; rintro e wa3 ⟨g3, cap3, rfl, hown3, hb3⟩; have hB3 : Below w18.heap.size w18 wa3 := (by first | exact ((Below.refl w18.heap.size w18).drew).trans (hb3.mono (Nat.le_refl _)) | exact (((Below.refl w18.heap.size w18).drew).alloc (Nat.le_refl _) _).trans (hb3.mono (by simp))))
            | (go_at_call 15; refine (HT2.out _ (by first | exact hB3 | exact hB3.alloc hB3.size _)).mono ?_; rintro e wa4 ⟨g4, cap4, rfl, hown4, hb4⟩; have hB4 : Below w18.heap.size w18 wa4 := (by first | exact hB3.trans (hb4.mono hB3.size) | exact (hB3.alloc hB3.size _).trans (hb4.mono (by have := hB3.size; simp; omega))))
            | (go_at_call 30; refine (CI.out _ _ _ (by first | exact hown3.sl.below hb4 | exact (hown3.sl.below (Joins.below_alloc1 _ _)).below hb4 | exact (hown3.sl.below hb4).below (Joins.below_alloc1 _ _)) (by first | exact hown4.sl | exact hown4.sl.below (Joins.below_alloc1 _ _)) (HE3.out _ (by first | exact hB4 | exact hB4.alloc hB4.size _))).mono ?_; rintro e wa5 ⟨ao5, n5, cap5, rfl, h5, hb5⟩; have hB5 : Below w18.heap.size w18 wa5 := (by first | exact hB4.trans (hb5.mono hB4.size) | exact (hB4.alloc hB4.size _).trans (hb5.mono (by have := hB4.size; simp; omega))); (first
                | (have hq5 : wa5.heap[wa4.heap.size]? = some (.cells #[.slice none 0 0] 28 (0, 0)) := (hb5.block _ (by simp)).trans (heap_alloc_last wa4 _); have hcq := cell_of_one hq5; have hfq := free_of_one hq5)
                | (have hq5 : wa5.heap[wa3.heap.size]? = some (.cells #[.slice none 0 0] 28 (0, 0)) := (hb5.block _ (by have := hb4.size; simp at this; omega)).trans ((hb4.block _ (by simp)).trans (heap_alloc_last wa3 _)); have hcq := cell_of_one hq5; have hfq := free_of_one hq5)
                | (have hq5 : wa5.heap[w18.heap.size]? = some (.cells #[.slice none 0 0] 28 (0, 0)) := (hb5.block _ (by have h1 := hb4.size; have h2 := hb3.size; simp at h2; omega)).trans ((hb4.block _ (by have h2 := hb3.size; simp at h2; omega)).trans ((hb3.block _ (by simp)).trans (heap_alloc_last w18.drew _))); have hcq := cell_of_one hq5; have hfq := free_of_one hq5)
                | skip)))
        all_goals (go_wp2_with fail; go_meet)
        all_goals first
          | exact ⟨wa5.heap.size, ao5, n5, cap5, wa4.heap.size, wa5.heap.size, rfl, rfl, Pic1.new h5, hB5.alloc hB5.size _, hB4.size, by simp⟩
          | exact ⟨wa4.heap.size, ao5, n5, cap5, _, wa5.heap.size, rfl, rfl, pic_set ((hb5.block _ (by simp)).trans (heap_alloc_last wa4 _)) h5, hB5.setCell (p := ⟨wa4.heap.size, 0, none⟩) hB4.size _, by have := hB4.size; simp; omega, by simp [World.setCell]⟩
          | exact ⟨wa3.heap.size, ao5, n5, cap5, _, wa5.heap.size, rfl, rfl, pic_set ((hb5.block _ (by have := hb4.size; simp at this; omega)).trans ((hb4.block _ (by simp)).trans (heap_alloc_last wa3 _))) h5, hB5.setCell (p := ⟨wa3.heap.size, 0, none⟩) hB3.size _, hB4.size, by simp [World.setCell]⟩
          | exact ⟨w18.heap.size, ao5, n5, cap5, _, wa5.heap.size, rfl, rfl, pic_set ((hb5.block _ (by have h1 := hb4.size; have h2 := hb3.size; simp at h2; omega)).trans ((hb4.block _ (by have h2 := hb3.size; simp at h2; omega)).trans ((hb3.block _ (by simp)).trans (heap_alloc_last w18.drew _)))) h5, hB5.setCell (p := ⟨w18.heap.size, 0, none⟩) (Nat.le_refl _) _, hB4.size, by simp [World.setCell]⟩
      obtain ⟨b21, ao9, n9, cap9, lo9, hi9, rfl, rfl, hp9, hbx, hlo9, hhi9⟩ := hcut
      have H21 := Lib.hid hp9
      have G21 := Lib.hid (G18.out.below hbx)
      have PW21 := Lib.hid (PW18.out.below hbx)
      have B21 := Lib.hid (B18.out.trans (hbx.mono B18.out.size))
      have hv21 := H21.out.v
      have pw21 := PW21.out.v
      clear hbx hp9 HX HT1 HT2 HE3 hc18 hd18 G18 PW18
      go_wp2_with fail
      refine (CE.out _ _ _ H21.out.sl PW21.out.sl).mono ?_
      rintro e w22 ⟨rfl, hb22⟩
      have G22 := Lib.hid (G21.out.below hb22)
      have B22 := Lib.hid (B21.out.trans (hb22.mono B21.out.size))
      have gz := G22.out.v
      clear hb22 hv21 pw21 H21 G21 PW21
      go_wp2_with fail
      refine (CH.out _ _ G22.out.sl).mono ?_
      rintro e w23 ⟨rfl, hb23⟩
      have B23 := Lib.hid (B22.out.trans (hb23.mono B22.out.size))
      clear hb23 gz
      go_wp2
      go_ret
      exact ⟨rfl, B23.out⟩
end Go.Proofs.YtfdefbfakdndiaaDoor
