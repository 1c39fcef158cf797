/- Contracts of single functions, and plain lemmas, on which the exact laws of this seat rest; each holds under the conditions that it states. -/
import Derived.Test.YtakaglbbcaplhaaDoorD5
namespace Go.Proofs.YtakaglbbcaplhaaDoor
set_option linter.unusedVariables false
set_option linter.unusedSimpArgs false
open Go.RowKit
attribute [local go_sem] Oper.semAt_some

set_option maxHeartbeats 4000000 in
set_option maxRecDepth 100000 in
theorem law_FarSpots (k ax ay bx b_y : Int) (w : World) (hn : NoRes w) :
    Calls Tryd.prog 10 #[.int .i64 k, .agg #[.int .i64 ax, .int .i64 ay], .agg #[.int .i64 bx, .int .i64 b_y]] w fun e w' => e = .returned (.bool true) ∧ Below w.heap.size w w' := by
  have CT : Hid (∀ X Y W, Calls Tryd.prog 18 #[.agg #[.int .i64 X, .int .i64 Y]] W (fun e w' => e = .returned (.agg #[.int .i64 X, .int .i64 Y]) ∧ Below W.heap.size W w')) := fun X Y W => toSpot_any X Y W
  have CS := Lib.hid (fun W => spec_FarSpots k ax ay bx b_y W)
  have CI : Hid (∀ W, Below w.heap.size w W → Calls Tryd.prog 42 #[.int .i64 k, .agg #[.int .i64 ax, .int .i64 ay], .agg #[.int .i64 bx, .int .i64 b_y]] W (SaysIOk (fsV k ax ay bx b_y) (fsOk k ax ay bx b_y) W)) := fun W hb => impl_FarSpots k ax ay bx b_y W (hn.below hb)
  obtain ⟨W0, hW0⟩ : ∃ W0, ((w.alloc (.cells #[.int .i64 ax, .int .i64 ay] 26)).alloc (.cells #[.int .i64 bx, .int .i64 b_y] 26)) = W0 := ⟨_, rfl⟩
  have b0 : Below w.heap.size w W0 := by rw [← hW0]; exact Joins.below_alloc2 _ _ _
  have hs0 : W0.heap.size = w.heap.size + 1 + 1 := by rw [← hW0]; simp
  have hp0 : W0.heap[w.heap.size]? = some (.cells #[.int .i64 ax, .int .i64 ay] 26 (0, 0)) := by
    rw [← hW0, Below.heap_alloc _ _ _ (by simp)]; exact heap_alloc_last w _
  have hr0 : W0.heap[w.heap.size + 1]? = some (.cells #[.int .i64 bx, .int .i64 b_y] 26 (0, 0)) := by
    rw [← hW0]
    exact heap_alloc2_new _ _ _
  have HX : Hid (∀ W, Below W0.heap.size W0 W → W.cell? ⟨w.heap.size, 0, none⟩ = some (.int .i64 ax) ∧ W.cell? ⟨w.heap.size, 1, none⟩ = some (.int .i64 ay) ∧ W.cell? ⟨w.heap.size + 1, 0, none⟩ = some (.int .i64 bx) ∧ W.cell? ⟨w.heap.size + 1, 1, none⟩ = some (.int .i64 b_y)) := fun W hb =>
    ⟨cell_kept hb (by rw [Joins.cell_of_block hp0 0]; rfl), cell_kept hb (by rw [Joins.cell_of_block hp0 1]; rfl), cell_kept hb (by rw [Joins.cell_of_block hr0 0]; rfl), cell_kept hb (by rw [Joins.cell_of_block hr0 1]; rfl)⟩
  have B0 := Lib.hid b0
  have HW := Lib.hid hW0
  have l0 : w.heap.size + 1 < W0.heap.size := by omega
  obtain ⟨d, hd⟩ : ∃ d, fsV k ax ay bx b_y = d := ⟨_, rfl⟩
  obtain ⟨ok, hok⟩ : ∃ d, fsOk k ax ay bx b_y = d := ⟨_, rfl⟩
  rw [hd, hok] at CS CI
  clear hn hW0 hp0 hr0 b0 hs0 hd hok
  go_enter Tryd.func10, Tryd.ntmps10
  go_wp2_with fail
  rw [HW.out]
  go_region_held3 (fun w' => w'.cell? ⟨w.heap.size, 0, none⟩ = some (.int .i64 ax) ∧ w'.cell? ⟨w.heap.size, 1, none⟩ = some (.int .i64 ay) ∧ w'.cell? ⟨w.heap.size + 1, 0, none⟩ = some (.int .i64 bx) ∧ w'.cell? ⟨w.heap.size + 1, 1, none⟩ = some (.int .i64 b_y))
    (first | exact HX.out _ (Below.refl _ _) | exact HX.out _ (Below.refl _ _).drew | exact HX.out _ ((Below.refl _ _).drew.trans hb3) | exact HX.out _ (((Below.refl _ _).drew.trans hb3).trans (hb4.mono hb3.size)) | exact HX.out _ ((((Below.refl _ _).drew.trans hb3).trans (hb4.mono hb3.size)).trans (hb5.mono (Nat.le_trans hb3.size hb4.size))))
    (first | (go_at_call 18; with_reducible refine Calls.mono (CT.out ax ay _) ?_; rintro e w3 ⟨rfl, hb3⟩) | (go_at_call 18; with_reducible refine Calls.mono (CT.out bx b_y _) ?_; rintro e w4 ⟨rfl, hb4⟩) | (go_at_call 41; refine (CS.out _).mono ?_; rintro e w5 ⟨rfl, hb5⟩))
  have hb05 := (((Below.refl W0.heap.size W0).drew.trans hb3).trans (hb4.mono hb3.size)).trans (hb5.mono (Nat.le_trans hb3.size hb4.size))
  have B5 := Lib.hid (B0.out.trans (hb05.mono B0.out.size))
  have V5 := Lib.hid hb05
  have l5 : w.heap.size + 1 < w5.heap.size := Nat.lt_of_lt_of_le l0 hb05.size
  have HY : Hid (∀ W, Below w5.heap.size w5 W → W.cell? ⟨w.heap.size, 0, none⟩ = some (.int .i64 ax) ∧ W.cell? ⟨w.heap.size, 1, none⟩ = some (.int .i64 ay) ∧ W.cell? ⟨w.heap.size + 1, 0, none⟩ = some (.int .i64 bx) ∧ W.cell? ⟨w.heap.size + 1, 1, none⟩ = some (.int .i64 b_y)) := fun W hb => HX.out W (V5.out.trans (hb.mono V5.out.size))
  have CI5 : Hid (∀ W, Below w5.heap.size w5 W → Calls Tryd.prog 42 #[.int .i64 k, .agg #[.int .i64 ax, .int .i64 ay], .agg #[.int .i64 bx, .int .i64 b_y]] W (SaysIOk d ok W)) := fun W hb => CI.out W (B5.out.trans (hb.mono B5.out.size))
  clear hb3 hb4 hb5 hb05 HX CS CI
  go_wp2_with fail
  go_region_held3 (fun w' => w'.cell? ⟨w.heap.size, 0, none⟩ = some (.int .i64 ax) ∧ w'.cell? ⟨w.heap.size, 1, none⟩ = some (.int .i64 ay) ∧ w'.cell? ⟨w.heap.size + 1, 0, none⟩ = some (.int .i64 bx) ∧ w'.cell? ⟨w.heap.size + 1, 1, none⟩ = some (.int .i64 b_y))
    (first | exact HY.out _ (Below.refl _ _) | exact HY.out _ (Below.refl _ _).drew | exact HY.out _ ((Below.refl _ _).drew.trans hb6) | exact HY.out _ (((Below.refl _ _).drew.trans hb6).trans (hb7.mono hb6.size)) | exact HY.out _ ((((Below.refl _ _).drew.trans hb6).trans (hb7.mono hb6.size)).trans (hb8.mono (Nat.le_trans hb6.size hb7.size))))
    (first | (go_at_call 18; with_reducible refine Calls.mono (CT.out ax ay _) ?_; rintro e w6 ⟨rfl, hb6⟩) | (go_at_call 18; with_reducible refine Calls.mono (CT.out bx b_y _) ?_; rintro e w7 ⟨rfl, hb7⟩) | (go_at_call 42; refine (CI5.out _ (((Below.refl _ _).drew.trans hb6).trans (hb7.mono hb6.size))).mono ?_; rintro e w8 ⟨rfl, hb8⟩))
  have hb58 := (((Below.refl w5.heap.size w5).drew.trans hb6).trans (hb7.mono hb6.size)).trans (hb8.mono (Nat.le_trans hb6.size hb7.size))
  have B8 := Lib.hid (B5.out.trans (hb58.mono B5.out.size))
  clear hb6 hb7 hb8 hb58 HY CI5
  cases ok
  all_goals go_wp2
  all_goals go_ret
  all_goals exact ⟨rfl, B8.out⟩
end Go.Proofs.YtakaglbbcaplhaaDoor
