/- Contracts of single functions, and plain lemmas, on which the exact laws of this seat rest; each holds under the conditions that it states. -/
import Derived.Test.YtmfaonddhmhjeaaDoorGd
import Derived.Test.YtmfaonddhmhjeaaDoorQh
import Derived.Test.YtmfaonddhmhjeaaDoorPa
import Derived.Test.YtmfaonddhmhjeaaDoorBq
import Derived.Deep.DeepCutAuto
import Derived.Deep.RegionHeld3
namespace Go.Proofs.YtmfaonddhmhjeaaDoor
set_option linter.unusedVariables false
set_option linter.unusedSimpArgs false
open Go.RowKit

set_option maxHeartbeats 12000000 in
set_option maxRecDepth 100000 in
theorem law_CropPicture (u : Value) (x y wd hh : Int) (ss : List ByteArray) (w : World) (hN : ss.length ≤ maxLen) (hz : ∀ s ∈ ss, s.size ≤ maxLen) (hu : Sl w u ss) (he : ErrLen w) :
    Calls Tryd.prog 4 #[.agg #[u], .agg #[.int .i64 x, .int .i64 y], .int .i64 wd, .int .i64 hh] w fun e w' => e = .returned (.bool true) ∧ Below w.heap.size w w' := by
  have HSL : Hid (∀ W, Below w.heap.size w W → Sl W u ss) := fun W hb => hu.below hb
  have HEL : Hid (∀ W, Below w.heap.size w W → ErrLen W) := fun W hb => he.below hb
  have b0 := Joins.below_alloc2 w (.cells #[u] 36) (.cells #[.int .i64 x, .int .i64 y] 38)
  have hc0 : ((w.alloc (.cells #[u] 36)).alloc (.cells #[.int .i64 x, .int .i64 y] 38)).cell? ⟨w.heap.size, 0, none⟩ = some u := cell_of_one (t := 36) (by rw [Below.heap_alloc _ _ _ (by simp)]; exact heap_alloc_last w _)
  have hd0 : ((w.alloc (.cells #[u] 36)).alloc (.cells #[.int .i64 x, .int .i64 y] 38)).heap[w.heap.size + 1]? = some (.cells #[.int .i64 x, .int .i64 y] 38 (0, 0)) := heap_alloc2_new _ _ _
  have C0 := Lib.hid (szPicture_any u ss 1048576 _ (by omega) (by omega) hN hz (HSL.out _ b0))
  have B0 := Lib.hid b0
  have D0 := Lib.hid hd0
  obtain ⟨P, ok, hPl, hS, hI⟩ := both_Crop ss x y wd hh hN hz
  have CS := Lib.hid hS
  have CI := Lib.hid hI
  have CE1 : Hid (∀ x y W, Sl W x ss → Sl W y ss → Calls Tryd.prog 11 #[.agg #[x], .agg #[y]] W (SaysB true W)) := fun x y W hx hy => by
    have := eqPicture_any x y ss ss W hN hN hx hy
    rwa [sameL_self] at this
  have CE : Hid (∀ x y W, Sl W x P → Sl W y P → Calls Tryd.prog 11 #[.agg #[x], .agg #[y]] W (SaysB true W)) := fun x y W hx hy => by
    have := eqPicture_any x y P P W (by unfold maxLen; omega) (by unfold maxLen; omega) hx hy
    rwa [sameL_self] at this
  obtain ⟨m, hm0, hM, hH⟩ : ∃ m : Int, 0 ≤ m ∧ (∀ v base W, OwnP W base v P → Calls Tryd.prog 14 #[.agg #[v], .int .i64 1] W (fun e w' => e = .returned (.int .i64 m) ∧ OwnP w' base v (marks 1 P.length) ∧ W.grownBy w' v.ownBlock)) ∧ (∀ v W, Sl W v (marks 1 P.length) → Calls Tryd.prog 15 #[.agg #[v], .int .i64 1] W (fun e w' => e = .returned (.int .i64 m) ∧ Below W.heap.size W w')) :=
    ⟨((1 + P.length : Nat) : Int), by omega, fun v base W h => markPicture_any v P base 1 W (by omega) (by omega) h, fun v W h => heldPicture_any v 1 P.length W (by omega) (by omega) h⟩
  have CM := Lib.hid hM
  have CH := Lib.hid hH
  clear hu he b0 hS hI hM hH hPl hd0
  go_enter Tryd.func4, Tryd.ntmps4
  go_wp2_with fail
  refine C0.out.mono ?_
  rintro e w1 ⟨r, rfl, hr1, hr2, hr3, hb1⟩
  by_cases hr : r < 0
  · have HB1 := Lib.hid hb1
    clear hb1 hr3
    go_wp2_with fail
    go_ret
    exact ⟨rfl, B0.out.trans (HB1.out.mono (by simp; omega))⟩
  · have hsm : ss.length ≤ 1048576 := by have := (hr3 (by omega)).1; omega
    have hc1 := cell_kept hb1 hc0
    have D1 := Lib.hid ((hb1.block (w.heap.size + 1) (by simp)).trans D0.out)
    have B1 : Hid (Below w.heap.size w w1) := B0.out.trans (hb1.mono (by simp; omega))
    have l1 : w.heap.size + 1 < w1.heap.size := (Array.getElem?_eq_some_iff.1 D1.out).1
    obtain ⟨m2, hm2, hM2⟩ : ∃ m : Int, 0 ≤ m ∧ (∀ v base W, OwnP W base v ss → Calls Tryd.prog 14 #[.agg #[v], .int .i64 1] W (fun e w' => e = .returned (.int .i64 m) ∧ OwnP w' base v (marks 1 ss.length) ∧ W.grownBy w' v.ownBlock)) :=
      ⟨((1 + ss.length : Nat) : Int), by omega, fun v base W h => markPicture_any v ss base 1 W (by omega) (by omega) h⟩
    have CM2 := Lib.hid hM2
    have HX : Hid (∀ W, Below w1.heap.size w1 W → W.cell? ⟨w.heap.size, 0, none⟩ = some u ∧ W.cell? ⟨w.heap.size + 1, 0, none⟩ = some (.int .i64 x) ∧ W.cell? ⟨w.heap.size + 1, 1, none⟩ = some (.int .i64 y)) := fun W hb => by
      have h := (hb.block _ l1).trans D1.out
      exact ⟨cell_kept hb hc1, (Joins.cell_of_block h 0).trans rfl, (Joins.cell_of_block h 1).trans rfl⟩
    have HT1 : Hid (∀ W, Below w1.heap.size w1 W → Calls Tryd.prog 18 #[.agg #[u]] W (TookPic W ss)) := fun W hb => toPicture_any u ss W hsm (HSL.out _ (B1.out.trans (hb.mono B1.out.size)))
    clear hb1 hr3 hr2 hr1 hc0 hM2
    go_upto_region 5 with fail
    go_cut [10, 11] (fun s8 s9 wx => ∃ (bw : Nat) (ao : Option Addr) (n cap lo hi : Nat), s8 = .pointer (some ⟨bw, 0, none⟩) ∧ s9 = .bool ok ∧ Pic1 wx bw lo hi (.slice ao n cap) P ∧ Below w1.heap.size w1 wx ∧ w1.heap.size ≤ lo ∧ hi ≤ wx.heap.size)
    case first =>
      go_region_held3 (fun w' => w'.cell? ⟨w.heap.size, 0, none⟩ = some u ∧ w'.cell? ⟨w.heap.size + 1, 0, none⟩ = some (.int .i64 x) ∧ w'.cell? ⟨w.heap.size + 1, 1, none⟩ = some (.int .i64 y))
        (first | exact HX.out _ (Below.refl _ _) | exact HX.out _ (Below.refl w1.heap.size w1).drew | exact HX.out _ (((Below.refl w1.heap.size w1).drew).alloc (Nat.le_refl _) _) | exact HX.out _ hB1 | exact HX.out _ (hB1.alloc hB1.size _) | exact HX.out _ hB2 | exact HX.out _ (hB2.alloc hB2.size _) | exact HX.out _ hB3 | exact HX.out _ (hB3.alloc hB3.size _) | exact HX.out _ (hB3.setCell (p := ⟨w1.heap.size, 0, none⟩) (Nat.le_refl _) _) | exact HX.out _ (hB3.setCell (p := ⟨wa1.heap.size, 0, none⟩) hB1.size _) | exact HX.out _ (hB3.setCell (p := ⟨wa2.heap.size, 0, none⟩) hB2.size _))
        (first
          | (go_at_call 18; refine (HT1.out _ (by first | exact (Below.refl w1.heap.size w1).drew | exact ((Below.refl w1.heap.size w1).drew).alloc (Nat.le_refl _) _)).mono ?_; rintro e wa1 ⟨g1, cap1, rfl, hown1, hb1⟩; have hB1 : Below w1.heap.size w1 wa1 := (by first | exact ((Below.refl w1.heap.size w1).drew).trans (hb1.mono (Nat.le_refl _)) | exact (((Below.refl w1.heap.size w1).drew).alloc (Nat.le_refl _) _).trans (hb1.mono (by simp))))
          | (go_at_call 19; refine (toSpot_any x y _).mono ?_; rintro e wa2 ⟨rfl, hb2⟩; have hB2 : Below w1.heap.size w1 wa2 := (by first | exact hB1.trans (hb2.mono hB1.size) | exact (hB1.alloc hB1.size _).trans (hb2.mono (by have := hB1.size; simp; omega))))
          | (go_at_call 17; refine (CS.out _ _ (by first | exact hown1.sl.below hb2 | exact (hown1.sl.below (Joins.below_alloc1 _ _)).below hb2 | exact (hown1.sl.below hb2).below (Joins.below_alloc1 _ _))).mono ?_; rintro e wa3 ⟨ao5, n5, cap5, rfl, h5, hb3⟩; have hB3 : Below w1.heap.size w1 wa3 := (by first | exact hB2.trans (hb3.mono hB2.size) | exact (hB2.alloc hB2.size _).trans (hb3.mono (by have := hB2.size; simp; omega))); (first
              | (have hq5 : wa3.heap[wa2.heap.size]? = some (.cells #[.slice none 0 0] 26 (0, 0)) := (hb3.block _ (by simp)).trans (heap_alloc_last wa2 _); have hcq := cell_of_one hq5; have hfq := free_of_one hq5)
              | (have hq5 : wa3.heap[wa1.heap.size]? = some (.cells #[.slice none 0 0] 26 (0, 0)) := (hb3.block _ (by have h2 := hb2.size; simp at h2; omega)).trans ((hb2.block _ (by simp)).trans (heap_alloc_last wa1 _)); have hcq := cell_of_one hq5; have hfq := free_of_one hq5)
              | (have hq5 : wa3.heap[w1.heap.size]? = some (.cells #[.slice none 0 0] 26 (0, 0)) := (hb3.block _ (by have h1 := hb1.size; have h2 := hb2.size; simp at h1; omega)).trans ((hb2.block _ (by have h1 := hb1.size; simp at h1; omega)).trans ((hb1.block _ (by simp)).trans (heap_alloc_last w1.drew _))); have hcq := cell_of_one hq5; have hfq := free_of_one hq5)
              | skip)))
      all_goals (go_wp2_with fail; go_meet)
      all_goals first
        | exact ⟨wa3.heap.size, ao5, n5, cap5, _, wa3.heap.size, rfl, rfl, Pic1.new h5, hB3.alloc hB3.size _, by first | exact hB2.size | (have := hB2.size; simp; omega) | simp, by simp⟩
        | exact ⟨wa2.heap.size, ao5, n5, cap5, _, wa3.heap.size, rfl, rfl, pic_set ((hb3.block _ (by simp)).trans (heap_alloc_last wa2 _)) h5, hB3.setCell (p := ⟨wa2.heap.size, 0, none⟩) hB2.size _, by first | exact hB2.size | (have := hB2.size; simp; omega) | simp, by simp [World.setCell]⟩
        | exact ⟨wa1.heap.size, ao5, n5, cap5, _, wa3.heap.size, rfl, rfl, pic_set ((hb3.block _ (by have h2 := hb2.size; simp at h2; omega)).trans ((hb2.block _ (by simp)).trans (heap_alloc_last wa1 _))) h5, hB3.setCell (p := ⟨wa1.heap.size, 0, none⟩) hB1.size _, by first | exact hB2.size | (have := hB2.size; simp; omega) | simp, by simp [World.setCell]⟩
        | exact ⟨w1.heap.size, ao5, n5, cap5, _, wa3.heap.size, rfl, rfl, pic_set ((hb3.block _ (by have h1 := hb1.size; have h2 := hb2.size; simp at h1; omega)).trans ((hb2.block _ (by have h1 := hb1.size; simp at h1; omega)).trans ((hb1.block _ (by simp)).trans (heap_alloc_last w1.drew _)))) h5, hB3.setCell (p := ⟨w1.heap.size, 0, none⟩) (Nat.le_refl _) _, by first | exact hB2.size | (have := hB2.size; simp; omega) | simp, by simp [World.setCell]⟩
    obtain ⟨b5, ao5, n5, cap5, lo5, hi5, rfl, rfl, hp5, hb25, hlo, hhi⟩ := hcut
    have PW5 := Lib.hid hp5
    have B5 : Hid (Below w.heap.size w wc) := B1.out.trans (hb25.mono B1.out.size)
    have hc5 := (HX.out _ hb25).1
    have D5 := Lib.hid ((hb25.block _ l1).trans D1.out)
    have lw : w1.heap.size ≤ wc.heap.size := hb25.size
    clear hb25 HX hc1 HT1 hp5
    go_wp2_with fail
    refine (toPicture_any u ss _ hsm (HSL.out _ B5.out)).mono ?_
    rintro e w6 ⟨g6, cap6, rfl, hown6, hb6⟩
    have X6 := Lib.hid (Pic1.new hown6)
    have l56 : wc.heap.size ≤ w6.heap.size := hb6.size
    have hba := hb6.trans ((Joins.below_alloc1 w6 (.cells #[.slice (some ⟨g6, 0, none⟩) ss.length cap6] 26)).mono hb6.size)
    have PW6 := Lib.hid (PW5.out.below hba)
    have B6 := Lib.hid (B5.out.trans (hba.mono B5.out.size))
    have hc6 := cell_kept hba hc5
    have D6 := Lib.hid ((hba.block _ (by omega)).trans D5.out)
    obtain ⟨W6, hW6⟩ : ∃ W6, w6.alloc (.cells #[.slice (some ⟨g6, 0, none⟩) ss.length cap6] 26) = W6 := ⟨_, rfl⟩
    have hl6 : w6.heap.size + 1 = W6.heap.size := by rw [← hW6]; simp
    have HW6 := Lib.hid hW6
    rw [hW6] at X6 PW6 B6 hc6 D6
    have l6 : w6.heap.size + 1 ≤ W6.heap.size := by omega
    have HX6 : Hid (∀ W, Below W6.heap.size W6 W → W.cell? ⟨w6.heap.size, 0, none⟩ = some (.slice (some ⟨g6, 0, none⟩) ss.length cap6) ∧ W.cell? ⟨w.heap.size + 1, 0, none⟩ = some (.int .i64 x) ∧ W.cell? ⟨w.heap.size + 1, 1, none⟩ = some (.int .i64 y)) := fun W hb => by
      have h := (hb.block _ (by omega)).trans D6.out
      exact ⟨(X6.out.below hb).v, (Joins.cell_of_block h 0).trans rfl, (Joins.cell_of_block h 1).trans rfl⟩
    have HI6 : Hid (∀ W, Below W6.heap.size W6 W → Calls Tryd.prog 20 #[.agg #[.slice (some ⟨g6, 0, none⟩) ss.length cap6], .agg #[.int .i64 x, .int .i64 y], .int .i64 wd, .int .i64 hh] W (SaysPic P ok W)) := fun W hb => CI.out _ W (X6.out.below hb).sl (HEL.out _ (B6.out.trans (hb.mono B6.out.size)))
    clear hb6 hba hown6 hc5 PW5 hW6 hl6
    go_upto_region 7 with fail
    rw [HW6.out]
    go_cut [13, 14] (fun s8 s9 wx => ∃ (bw : Nat) (ao : Option Addr) (n cap lo hi : Nat), s8 = .pointer (some ⟨bw, 0, none⟩) ∧ s9 = .bool ok ∧ Pic1 wx bw lo hi (.slice ao n cap) P ∧ Below W6.heap.size W6 wx ∧ W6.heap.size ≤ lo ∧ hi ≤ wx.heap.size)
    case first =>
      go_region_held3 (fun w' => w'.cell? ⟨w6.heap.size, 0, none⟩ = some (.slice (some ⟨g6, 0, none⟩) ss.length cap6) ∧ w'.cell? ⟨w.heap.size + 1, 0, none⟩ = some (.int .i64 x) ∧ w'.cell? ⟨w.heap.size + 1, 1, none⟩ = some (.int .i64 y))
        (first | exact HX6.out _ (Below.refl _ _) | exact HX6.out _ (Below.refl W6.heap.size W6).drew | exact HX6.out _ (((Below.refl W6.heap.size W6).drew).alloc (Nat.le_refl _) _) | exact HX6.out _ hB1 | exact HX6.out _ (hB1.alloc hB1.size _) | exact HX6.out _ hB2 | exact HX6.out _ (hB2.alloc hB2.size _) | exact HX6.out _ (hB2.setCell (p := ⟨W6.heap.size, 0, none⟩) (Nat.le_refl _) _) | exact HX6.out _ (hB2.setCell (p := ⟨wa1.heap.size, 0, none⟩) hB1.size _))
        (first
          | (go_at_call 19; refine (toSpot_any x y _).mono ?_; rintro e wa1 ⟨rfl, hb1⟩; have hB1 : Below W6.heap.size W6 wa1 := (by first | exact ((Below.refl W6.heap.size W6).drew).trans (hb1.mono (Nat.le_refl _)) | exact (((Below.refl W6.heap.size W6).drew).alloc (Nat.le_refl _) _).trans (hb1.mono (by simp))))
          | (go_at_call 20; refine (HI6.out _ (by first | exact hB1 | exact hB1.alloc hB1.size _)).mono ?_; rintro e wa2 ⟨ao5, n5, cap5, rfl, h5, hb2⟩; have hB2 : Below W6.heap.size W6 wa2 := (by first | exact hB1.trans (hb2.mono hB1.size) | exact (hB1.alloc hB1.size _).trans (hb2.mono (by have := hB1.size; simp; omega))); (first
              | (have hq5 : wa2.heap[wa1.heap.size]? = some (.cells #[.slice none 0 0] 26 (0, 0)) := (hb2.block _ (by simp)).trans (heap_alloc_last wa1 _); have hcq := cell_of_one hq5; have hfq := free_of_one hq5)
              | (have hq5 : wa2.heap[W6.heap.size]? = some (.cells #[.slice none 0 0] 26 (0, 0)) := (hb2.block _ (by have h1 := hb1.size; simp at h1; omega)).trans ((hb1.block _ (by simp)).trans (heap_alloc_last W6.drew _)); have hcq := cell_of_one hq5; have hfq := free_of_one hq5)
              | skip)))
      all_goals (go_wp2_with fail; go_meet)
      all_goals first
        | exact ⟨wa2.heap.size, ao5, n5, cap5, _, wa2.heap.size, rfl, rfl, Pic1.new h5, hB2.alloc hB2.size _, by first | exact hB1.size | (have := hB1.size; simp; omega) | simp, by simp⟩
        | exact ⟨wa1.heap.size, ao5, n5, cap5, _, wa2.heap.size, rfl, rfl, pic_set ((hb2.block _ (by simp)).trans (heap_alloc_last wa1 _)) h5, hB2.setCell (p := ⟨wa1.heap.size, 0, none⟩) hB1.size _, by first | exact hB1.size | (have := hB1.size; simp; omega) | simp, by simp [World.setCell]⟩
        | exact ⟨W6.heap.size, ao5, n5, cap5, _, wa2.heap.size, rfl, rfl, pic_set ((hb2.block _ (by have h1 := hb1.size; simp at h1; omega)).trans ((hb1.block _ (by simp)).trans (heap_alloc_last W6.drew _))) h5, hB2.setCell (p := ⟨W6.heap.size, 0, none⟩) (Nat.le_refl _) _, by first | exact hB1.size | (have := hB1.size; simp; omega) | simp, by simp [World.setCell]⟩
    obtain ⟨b8, ao8, n8, cap8, lo8, hi8, rfl, rfl, hp8, hba, hlo8, hhi8⟩ := hcut
    have G8 := Lib.hid hp8
    have X8 := Lib.hid (X6.out.below hba)
    have PW8 := Lib.hid (PW6.out.below hba)
    have B8 := Lib.hid (B6.out.trans (hba.mono B6.out.size))
    have hc8 := cell_kept hba hc6
    have D8 := Lib.hid ((hba.block _ (by omega)).trans D6.out)
    have gv := G8.out.v
    have pv := PW8.out.v
    clear hba hp8 hc6 X6 PW6 HX6 HI6
    go_wp2_with fail
    refine (CE.out _ _ _ G8.out.sl PW8.out.sl).mono ?_
    rintro e w9 ⟨rfl, hb9⟩
    have l89 := hb9.size
    have G9 := Lib.hid (G8.out.below hb9)
    have X9 := Lib.hid (X8.out.below hb9)
    have PW9 := Lib.hid (PW8.out.below hb9)
    have B9 := Lib.hid (B8.out.trans (hb9.mono B8.out.size))
    have hc9 := cell_kept hb9 hc8
    have D9 := Lib.hid ((hb9.block _ (Array.getElem?_eq_some_iff.1 D8.out).1).trans D8.out)
    have HX : Hid (∀ W, Below w9.heap.size w9 W → W.cell? ⟨w.heap.size, 0, none⟩ = some u ∧ W.cell? ⟨w6.heap.size, 0, none⟩ = some (.slice (some ⟨g6, 0, none⟩) ss.length cap6)) := fun W hb => ⟨cell_kept hb hc9, (X9.out.below hb).v⟩
    have HT1 : Hid (∀ W, Below w9.heap.size w9 W → Calls Tryd.prog 18 #[.agg #[u]] W (TookPic W ss)) := fun W hb => toPicture_any u ss W hsm (HSL.out _ (B9.out.trans (hb.mono B9.out.size)))
    have HE1 : Hid (∀ W x, Below w9.heap.size w9 W → Sl W x ss → Calls Tryd.prog 11 #[.agg #[.slice (some ⟨g6, 0, none⟩) ss.length cap6], .agg #[x]] W (SaysB true W)) := fun W x hb hx => CE1.out _ x W (X9.out.below hb).sl hx
    clear hb9 hc8 G8 X8 PW8 gv pv
    go_wp2_with fail
    go_region_held3 (fun w' => w'.cell? ⟨w.heap.size, 0, none⟩ = some u ∧ w'.cell? ⟨w6.heap.size, 0, none⟩ = some (.slice (some ⟨g6, 0, none⟩) ss.length cap6))
      (first | exact HX.out _ (Below.refl _ _) | exact HX.out _ (Below.refl _ _).drew | exact HX.out _ ((Below.refl _ _).drew.trans hba) | exact HX.out _ (((Below.refl _ _).drew.trans hba).trans (hbb.mono hba.size)))
      (first | (go_at_call 18; refine (HT1.out _ (Below.refl _ _).drew).mono ?_; rintro e w10 ⟨ga, capa, rfl, howna, hba⟩) | (go_at_call 11; refine (HE1.out _ _ ((Below.refl _ _).drew.trans hba) howna.sl).mono ?_; rintro e w11 ⟨rfl, hbb⟩))
    have hbc := (Below.refl w9.heap.size w9).drew.trans (hba.trans (hbb.mono hba.size))
    have G11 := Lib.hid (G9.out.below hbc)
    have X11 := Lib.hid (X9.out.below hbc)
    have PW11 := Lib.hid (PW9.out.below hbc)
    have B11 : Hid (Below w.heap.size w w11) := B9.out.trans (hbc.mono B9.out.size)
    have hc11 := cell_kept hbc hc9
    have D11 := Lib.hid ((hbc.block _ (Array.getElem?_eq_some_iff.1 D9.out).1).trans D9.out)
    have xv := X11.out.v
    clear hba hbb hbc howna hc9 HX HT1 HE1 G9 X9 PW9
    go_wp2_with fail
    refine (CM2.out _ _ _ X11.out.o).mono ?_
    rintro e w14 ⟨rfl, ho, hg⟩
    have X14 := Lib.hid (X11.out.marked ho hg)
    have PW14 := Lib.hid (PW11.out.other X11.out (Or.inl hhi) hg)
    have G14 := Lib.hid (G11.out.other X11.out (Or.inr (by omega)) hg)
    have B14 := Lib.hid (X11.out.grow B5.out.size B11.out hg)
    have hc14 := X11.out.argcell hc11 (by omega) hg
    have D14 : Hid (w14.heap[w.heap.size + 1]? = some (.cells #[.int .i64 x, .int .i64 y] 38 (0, 0))) := (hg.block _ (Array.getElem?_eq_some_iff.1 D11.out).1 (fun e1 => by have := (X11.out.o.lt _ e1.symm).1; omega)).trans D11.out
    have gv := G14.out.v
    have pv := PW14.out.v
    clear ho hg hc11 xv X11 PW11 G11
    go_wp2_with fail
    refine (CE.out _ _ _ G14.out.sl PW14.out.sl).mono ?_
    rintro e w16 ⟨rfl, hb16⟩
    have G16 := Lib.hid (G14.out.below hb16)
    have PW16 := Lib.hid (PW14.out.below hb16)
    have B16 := Lib.hid (B14.out.trans (hb16.mono B14.out.size))
    have hc16 := cell_kept hb16 hc14
    have D16 := Lib.hid ((hb16.block _ (Array.getElem?_eq_some_iff.1 D14.out).1).trans D14.out)
    have gw := G16.out.v
    clear hb16 hc14 gv pv G14 PW14 X14
    go_wp2_with fail
    refine (CM.out _ _ _ G16.out.o).mono ?_
    rintro e w17 ⟨rfl, ho, hg⟩
    have G17 := Lib.hid (G16.out.marked ho hg)
    have PW17 := Lib.hid (PW16.out.other G16.out (Or.inl (by omega)) hg)
    have B17 := Lib.hid (G16.out.grow (by omega) B16.out hg)
    have hc17 := G16.out.argcell hc16 (by omega) hg
    have D17 : Hid (w17.heap[w.heap.size + 1]? = some (.cells #[.int .i64 x, .int .i64 y] 38 (0, 0))) := (hg.block _ (Array.getElem?_eq_some_iff.1 D16.out).1 (fun e1 => by have := (G16.out.o.lt _ e1.symm).1; omega)).trans D16.out
    have gx := G17.out.v
    clear ho hg hc16 gw G16 PW16
    go_wp2_with fail
    refine (CH.out _ _ G17.out.sl).mono ?_
    rintro e w18 ⟨rfl, hb18⟩
    have G18 := Lib.hid (G17.out.below hb18)
    have PW18 := Lib.hid (PW17.out.below hb18)
    have B18 := Lib.hid (B17.out.trans (hb18.mono B17.out.size))
    have hc18 := cell_kept hb18 hc17
    have D18 := Lib.hid ((hb18.block _ (Array.getElem?_eq_some_iff.1 D17.out).1).trans D17.out)
    have l18 := (Array.getElem?_eq_some_iff.1 D18.out).1
    have HX : Hid (∀ W, Below w18.heap.size w18 W → W.cell? ⟨w.heap.size, 0, none⟩ = some u ∧ W.cell? ⟨w.heap.size + 1, 0, none⟩ = some (.int .i64 x) ∧ W.cell? ⟨w.heap.size + 1, 1, none⟩ = some (.int .i64 y)) := fun W hb => by
      have h := (hb.block _ l18).trans D18.out
      exact ⟨cell_kept hb hc18, (Joins.cell_of_block h 0).trans rfl, (Joins.cell_of_block h 1).trans rfl⟩
    have HT1 : Hid (∀ W, Below w18.heap.size w18 W → Calls Tryd.prog 18 #[.agg #[u]] W (TookPic W ss)) := fun W hb => toPicture_any u ss W hsm (HSL.out _ (B18.out.trans (hb.mono B18.out.size)))
    have HE3 : Hid (∀ W, Below w18.heap.size w18 W → ErrLen W) := fun W hb => HEL.out _ (B18.out.trans (hb.mono B18.out.size))
    clear hb18 hc17 gx G17 PW17
    go_upto_region 24 with fail
    go_cut [18, 19] (fun s8 s9 wx => ∃ (bw : Nat) (ao : Option Addr) (n cap lo hi : Nat), s8 = .pointer (some ⟨bw, 0, none⟩) ∧ s9 = .bool ok ∧ Pic1 wx bw lo hi (.slice ao n cap) P ∧ Below w18.heap.size w18 wx ∧ w18.heap.size ≤ lo ∧ hi ≤ wx.heap.size)
    case first =>
      go_region_held3 (fun w' => w'.cell? ⟨w.heap.size, 0, none⟩ = some u ∧ w'.cell? ⟨w.heap.size + 1, 0, none⟩ = some (.int .i64 x) ∧ w'.cell? ⟨w.heap.size + 1, 1, none⟩ = some (.int .i64 y))
        (first | exact HX.out _ (Below.refl _ _) | exact HX.out _ (Below.refl w18.heap.size w18).drew | exact HX.out _ (((Below.refl w18.heap.size w18).drew).alloc (Nat.le_refl _) _) | exact HX.out _ hB1 | exact HX.out _ (hB1.alloc hB1.size _) | exact HX.out _ hB2 | exact HX.out _ (hB2.alloc hB2.size _) | exact HX.out _ hB3 | exact HX.out _ (hB3.alloc hB3.size _) | exact HX.out _ (hB3.setCell (p := ⟨w18.heap.size, 0, none⟩) (Nat.le_refl _) _) | exact HX.out _ (hB3.setCell (p := ⟨wa1.heap.size, 0, none⟩) hB1.size _) | exact HX.out _ (hB3.setCell (p := ⟨wa2.heap.size, 0, none⟩) hB2.size _))
        (first
          | (go_at_call 18; refine (HT1.out _ (by first | exact (Below.refl w18.heap.size w18).drew | exact ((Below.refl w18.heap.size w18).drew).alloc (Nat.le_refl _) _)).mono ?_; rintro e wa1 ⟨g1, cap1, rfl, hown1, hb1⟩; have hB1 : Below w18.heap.size w18 wa1 := (by first | exact ((Below.refl w18.heap.size w18).drew).trans (hb1.mono (Nat.le_refl _)) | exact (((Below.refl w18.heap.size w18).drew).alloc (Nat.le_refl _) _).trans (hb1.mono (by simp))))
          | (go_at_call 19; refine (toSpot_any x y _).mono ?_; rintro e wa2 ⟨rfl, hb2⟩; have hB2 : Below w18.heap.size w18 wa2 := (by first | exact hB1.trans (hb2.mono hB1.size) | exact (hB1.alloc hB1.size _).trans (hb2.mono (by have := hB1.size; simp; omega))))
          | (go_at_call 20; refine (CI.out _ _ (by first | exact hown1.sl.below hb2 | exact (hown1.sl.below (Joins.below_alloc1 _ _)).below hb2 | exact (hown1.sl.below hb2).below (Joins.below_alloc1 _ _)) (HE3.out _ (by first | exact hB2 | exact hB2.alloc hB2.size _))).mono ?_; rintro e wa3 ⟨ao5, n5, cap5, rfl, h5, hb3⟩; have hB3 : Below w18.heap.size w18 wa3 := (by first | exact hB2.trans (hb3.mono hB2.size) | exact (hB2.alloc hB2.size _).trans (hb3.mono (by have := hB2.size; simp; omega))); (first
              | (have hq5 : wa3.heap[wa2.heap.size]? = some (.cells #[.slice none 0 0] 26 (0, 0)) := (hb3.block _ (by simp)).trans (heap_alloc_last wa2 _); have hcq := cell_of_one hq5; have hfq := free_of_one hq5)
              | (have hq5 : wa3.heap[wa1.heap.size]? = some (.cells #[.slice none 0 0] 26 (0, 0)) := (hb3.block _ (by have h2 := hb2.size; simp at h2; omega)).trans ((hb2.block _ (by simp)).trans (heap_alloc_last wa1 _)); have hcq := cell_of_one hq5; have hfq := free_of_one hq5)
              | (have hq5 : wa3.heap[w18.heap.size]? = some (.cells #[.slice none 0 0] 26 (0, 0)) := (hb3.block _ (by have h1 := hb1.size; have h2 := hb2.size; simp at h1; omega)).trans ((hb2.block _ (by have h1 := hb1.size; simp at h1; omega)).trans ((hb1.block _ (by simp)).trans (heap_alloc_last w18.drew _))); have hcq := cell_of_one hq5; have hfq := free_of_one hq5)
              | skip)))
      all_goals (go_wp2_with fail; go_meet)
      all_goals first
        | exact ⟨wa3.heap.size, ao5, n5, cap5, _, wa3.heap.size, rfl, rfl, Pic1.new h5, hB3.alloc hB3.size _, by first | exact hB2.size | (have := hB2.size; simp; omega) | simp, by simp⟩
        | exact ⟨wa2.heap.size, ao5, n5, cap5, _, wa3.heap.size, rfl, rfl, pic_set ((hb3.block _ (by simp)).trans (heap_alloc_last wa2 _)) h5, hB3.setCell (p := ⟨wa2.heap.size, 0, none⟩) hB2.size _, by first | exact hB2.size | (have := hB2.size; simp; omega) | simp, by simp [World.setCell]⟩
        | exact ⟨wa1.heap.size, ao5, n5, cap5, _, wa3.heap.size, rfl, rfl, pic_set ((hb3.block _ (by have h2 := hb2.size; simp at h2; omega)).trans ((hb2.block _ (by simp)).trans (heap_alloc_last wa1 _))) h5, hB3.setCell (p := ⟨wa1.heap.size, 0, none⟩) hB1.size _, by first | exact hB2.size | (have := hB2.size; simp; omega) | simp, by simp [World.setCell]⟩
        | exact ⟨w18.heap.size, ao5, n5, cap5, _, wa3.heap.size, rfl, rfl, pic_set ((hb3.block _ (by have h1 := hb1.size; have h2 := hb2.size; simp at h1; omega)).trans ((hb2.block _ (by have h1 := hb1.size; simp at h1; omega)).trans ((hb1.block _ (by simp)).trans (heap_alloc_last w18.drew _)))) h5, hB3.setCell (p := ⟨w18.heap.size, 0, none⟩) (Nat.le_refl _) _, by first | exact hB2.size | (have := hB2.size; simp; omega) | simp, by simp [World.setCell]⟩
    obtain ⟨b21, ao9, n9, cap9, lo9, hi9, rfl, rfl, hp9, hbx, hlo9, hhi9⟩ := hcut
    have H21 := Lib.hid hp9
    have G21 := Lib.hid (G18.out.below hbx)
    have PW21 := Lib.hid (PW18.out.below hbx)
    have B21 := Lib.hid (B18.out.trans (hbx.mono B18.out.size))
    have hv21 := H21.out.v
    have pw21 := PW21.out.v
    clear hbx hp9 HX HT1 HE3 hc18 G18 PW18
    go_wp2_with fail
    refine (CE.out _ _ _ H21.out.sl PW21.out.sl).mono ?_
    rintro e w22 ⟨rfl, hb22⟩
    have G22 := Lib.hid (G21.out.below hb22)
    have B22 := Lib.hid (B21.out.trans (hb22.mono B21.out.size))
    have gz := G22.out.v
    clear hb22 hv21 pw21 H21 G21 PW21
    go_wp2_with fail
    refine (CH.out _ _ G22.out.sl).mono ?_
    rintro e w23 ⟨rfl, hb23⟩
    have B23 := Lib.hid (B22.out.trans (hb23.mono B22.out.size))
    clear hb23 gz
    go_wp2
    go_ret
    exact ⟨rfl, B23.out⟩
end Go.Proofs.YtmfaonddhmhjeaaDoor
