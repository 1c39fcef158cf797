/- Contracts of single functions, and plain lemmas, on which the exact laws of this seat rest; each holds under the conditions that it states. -/
import Derived.Test.YtmfaonddhmhjeaaDoorGa
import Derived.Deep.RegionHeld3
import Derived.Test.YtmfaonddhmhjeaaDoorIq
namespace Go.Proofs.YtmfaonddhmhjeaaDoor
set_option linter.unusedVariables false
set_option linter.unusedSimpArgs false
open Go.RowKit

/-- the part lies in the picture -/
def cropOk (ss : List ByteArray) (x y wd hh : Int) : Bool := validB ss && (insB (row0 ss).size ss.length x y && (inB wd 1 ((row0 ss).size - x) && inB hh 1 (ss.length - y)))

theorem begin3 (w : World) (v : Value) (x y : Int) : ∃ W0, ((w.alloc (.cells #[v] 26)).alloc (.cells #[.int .i64 x, .int .i64 y] 42)).alloc (.cells #[.slice none 0 0] 26) = W0 ∧ Below w.heap.size w W0 ∧ w.heap.size + 2 < W0.heap.size ∧
    W0.heap[w.heap.size]? = some (.cells #[v] 26 (0, 0)) ∧ W0.heap[w.heap.size + 1]? = some (.cells #[.int .i64 x, .int .i64 y] 42 (0, 0)) ∧ W0.heap[w.heap.size + 1 + 1]? = some (.cells #[.slice none 0 0] 26 (0, 0)) := by
  refine ⟨_, rfl, Joins.below_alloc3 _ _ _ _, by simp, ?_, ?_, ?_⟩
  · rw [Below.heap_alloc _ _ _ (by simp; omega), Below.heap_alloc _ _ _ (by simp)]; exact heap_alloc_last w _
  · rw [Below.heap_alloc _ _ _ (by simp)]; exact heap_alloc2_new _ _ _
  · have := heap_alloc_last ((w.alloc (.cells #[v] 26)).alloc (.cells #[.int .i64 x, .int .i64 y] 42)) (.cells #[.slice none 0 0] 26)
    simp only [World.size_alloc] at this
    exact this

set_option maxHeartbeats 2000000 in
set_option maxRecDepth 100000 in
theorem spec_Crop_yes (v : Value) (ss : List ByteArray) (x y wd hh : Nat) (w : World) (hN : ss.length ≤ maxLen) (hz : ∀ s ∈ ss, s.size ≤ maxLen) (hv : Sl w v ss) (hok : validB ss = true) (hw : 1 ≤ wd) (hh1 : 1 ≤ hh) (hx : x + wd ≤ (row0 ss).size) (hy : y + hh ≤ ss.length) :
    Calls Tryd.prog 17 #[.agg #[v], .agg #[.int .i64 x, .int .i64 y], .int .i64 wd, .int .i64 hh] w (SaysPic (cropRows ss x y wd hh) true w) := by
  have V := vp_of hok
  have hw16 := V.w16
  have hn16 := V.n16
  obtain ⟨W0, hW0, hb0, hl0, hp0, hp1, hp2⟩ := begin3 w v x y
  have hcv : W0.cell? ⟨w.heap.size, 0, none⟩ = some v := cell_of_one hp0
  have HPA : Hid (∀ W, Below W0.heap.size W0 W → PicAt W w.heap.size 0 ss) := fun W hb => ⟨hok, v, cell_kept hb hcv, (hv.below hb0).below hb⟩
  have HX : Hid (∀ W, Below W0.heap.size W0 W → W.cell? ⟨w.heap.size + 1, 0, none⟩ = some (.int .i64 x) ∧ W.cell? ⟨w.heap.size + 1, 1, none⟩ = some (.int .i64 y)) := fun W hb => by
    have h := (hb.block (w.heap.size + 1) (by omega)).trans hp1
    exact ⟨(Joins.cell_of_block h 0).trans rfl, (Joins.cell_of_block h 1).trans rfl⟩
  have CIs : Hid (∀ W, Below W0.heap.size W0 W → Calls Tryd.prog 45 #[.pointer (some ⟨w.heap.size, 0, none⟩)] W (SaysB true W)) := fun W hb => by
    have := l01Is_any w.heap.size 0 v ss W (cell_kept hb hcv) ((hv.below hb0).below hb) hN hz
    rwa [hok] at this
  have CHas : Hid (∀ W, Below W0.heap.size W0 W → Calls Tryd.prog 46 #[.pointer (some ⟨w.heap.size, 0, none⟩), .int .i64 x, .int .i64 y] W (fun e w' => e = .returned (.bool true) ∧ W = w')) := fun W hb => by
    have := l01Has_any w.heap.size 0 ss x y W (HPA.out W hb)
    rwa [in_range (by omega) (by omega)] at this
  have CW : Hid (∀ W, Below W0.heap.size W0 W → Calls Tryd.prog 47 #[.pointer (some ⟨w.heap.size, 0, none⟩)] W (fun e w' => e = .returned (.int .i64 (row0 ss).size) ∧ W = w')) := fun W hb => l01Width_any _ _ ss W (HPA.out W hb)
  have CH : Hid (∀ W, Below W0.heap.size W0 W → Calls Tryd.prog 48 #[.pointer (some ⟨w.heap.size, 0, none⟩)] W (fun e w' => e = .returned (.int .i64 ss.length) ∧ W = w')) := fun W hb => l01Height_any _ _ ss W (HPA.out W hb)
  have CC : Hid (∀ W, Below W0.heap.size W0 W → Calls Tryd.prog 49 #[.pointer (some ⟨w.heap.size, 0, none⟩), .int .i64 x, .int .i64 y, .int .i64 wd, .int .i64 hh] W (TookPic W (cropRows ss x y wd hh))) := fun W hb => l01Crop_any _ _ ss x y wd hh W (HPA.out W hb) hx hy
  obtain ⟨a, ha⟩ : ∃ a, (row0 ss).size = a := ⟨_, rfl⟩
  obtain ⟨b, hbb⟩ : ∃ a, ss.length = a := ⟨_, rfl⟩
  rw [ha] at CW hx hw16
  rw [hbb] at CH hy hn16
  have e1 := Lib.hid (inB_yes (n := (wd : Int)) (a := 1) (b := (a : Int) - (x : Int)) (by omega) (by omega))
  have e2 := Lib.hid (inB_yes (n := (hh : Int)) (a := 1) (b := (b : Int) - (y : Int)) (by omega) (by omega))
  obtain ⟨pic, hpic⟩ : ∃ p, cropRows ss x y wd hh = p := ⟨_, rfl⟩
  rw [hpic] at CC ⊢
  have k1 : IntKind.i64.wrap ((a : Int) - (x : Int)) = (a : Int) - (x : Int) := IntWalk.i64_in _ (by omega)
  have k2 : IntKind.i64.wrap ((b : Int) - (y : Int)) = (b : Int) - (y : Int) := IntWalk.i64_in _ (by omega)
  have HW := Lib.hid hW0
  have B0 := Lib.hid hb0
  have P0 := Lib.hid hp2
  clear hW0 hb0 hp0 hp1 hp2 hcv ha hbb hpic hok V hv
  go_enter Tryd.func17, Tryd.ntmps17
  go_wp2_with fail
  rw [HW.out]
  go_region_held3 (fun w' => w'.cell? ⟨w.heap.size + 1, 0, none⟩ = some (.int .i64 x) ∧ w'.cell? ⟨w.heap.size + 1, 1, none⟩ = some (.int .i64 y))
    (first | exact HX.out _ (Below.refl _ _) | exact HX.out _ (Below.refl _ _).drew | exact HX.out _ ((Below.refl _ _).drew.trans hb1))
    (first
      | (go_at_call 45; refine (CIs.out _ (Below.refl _ _).drew).mono ?_; rintro e w1 ⟨rfl, hb1⟩)
      | (go_at_call 46; refine (CHas.out _ ((Below.refl _ _).drew.trans hb1)).mono ?_; rintro e w' ⟨rfl, rfl⟩)
      | (go_at_call 47; refine (CW.out _ ((Below.refl _ _).drew.trans hb1)).mono ?_; rintro e w' ⟨rfl, rfl⟩)
      | (go_at_call 48; refine (CH.out _ ((Below.refl _ _).drew.trans hb1)).mono ?_; rintro e w' ⟨rfl, rfl⟩)
      | (go_at_call 35; refine (l00In_any _ _ _ _).mono ?_; rintro e w' ⟨rfl, rfl⟩; first | rw [e1.out] | rw [e2.out]))
  have hb01 : Below W0.heap.size W0 w1 := (Below.refl _ _).drew.trans hb1
  have hx1 := (HX.out _ hb01).1
  have hy1 := (HX.out _ hb01).2
  have C1 := Lib.hid (CC.out _ hb01)
  have P1 := Lib.hid ((hb01.block _ hl0).trans P0.out)
  have B1 := Lib.hid (B0.out.trans (hb01.mono B0.out.size))
  clear hb01 hb1 k1 k2
  go_wp2_with fail
  refine C1.out.mono ?_
  rintro e w2 ⟨g, cap2, rfl, hown2, hb2⟩
  have hp2 := (hb2.block _ (Array.getElem?_eq_some_iff.1 P1.out).1).trans P1.out
  have hfr : w2.frozen? ⟨w.heap.size + 1 + 1, 0, none⟩ = false := free_of_one hp2
  have hc2 : w2.cell? ⟨w.heap.size + 1 + 1, 0, none⟩ = some (.slice none 0 0) := cell_of_one hp2
  have O2 := Lib.hid (own_set (u := .slice (some ⟨g, 0, none⟩) pic.length cap2) hown2 hp2 (by decide))
  have P2 := Lib.hid hp2
  have hs0 := B1.out.size
  have B2 := Lib.hid (B1.out.trans (hb2.mono hs0))
  clear hown2 hp2 hb2
  go_wp2_with fail
  refine bodyPost_ret (v := .tuple #[.agg #[.slice (some ⟨g, 0, none⟩) pic.length cap2], .bool true]) (by simp [results, Tryd.results17, go_sem, cell_of_one (one_setCell P2.out)]) rfl ⟨_, _, _, rfl, Joins.ownsRow_le O2.out hs0, B2.out.setCell (by simp; omega) _⟩

set_option maxHeartbeats 2000000 in
set_option maxRecDepth 100000 in
theorem spec_Crop_n1 (v : Value) (ss : List ByteArray) (x y wd hh : Int) (w : World) (hN : ss.length ≤ maxLen) (hz : ∀ s ∈ ss, s.size ≤ maxLen) (hv : Sl w v ss) (hok : validB ss = false) :
    Calls Tryd.prog 17 #[.agg #[v], .agg #[.int .i64 x, .int .i64 y], .int .i64 wd, .int .i64 hh] w (SaysPic [] false w) := by
  obtain ⟨W0, hW0, hb0, hl0, hp0, hp1, hp2⟩ := begin3 w v x y
  have hcv : W0.cell? ⟨w.heap.size, 0, none⟩ = some v := cell_of_one hp0
  have hx1 : W0.cell? ⟨w.heap.size + 1, 0, none⟩ = some (.int .i64 x) := (Joins.cell_of_block hp1 0).trans rfl
  have hy1' : W0.cell? ⟨w.heap.size + 1, 1, none⟩ = some (.int .i64 y) := (Joins.cell_of_block hp1 1).trans rfl
  have hbd : ∀ n, Below W0.heap.size W0 (W0.drewN n) := fun n => Joins.below_draws _ _ _
  have CIs : Hid (∀ n, Calls Tryd.prog 45 #[.pointer (some ⟨w.heap.size, 0, none⟩)] (W0.drewN n) (QuietB false (W0.drewN n))) := fun n => by
    have := l01Is_quiet w.heap.size 0 v ss (W0.drewN n) (cell_kept (hbd n) hcv) ((hv.below hb0).below (hbd n)) hN hz
    rwa [hok] at this
  have HW := Lib.hid hW0
  have B0 := Lib.hid hb0
  have P0 := Lib.hid hp2
  have PN : Hid (∀ n, (W0.drewN n).heap[w.heap.size + 1 + 1]? = some (.cells #[.slice none 0 0] 26 (0, 0))) := fun n => ((hbd n).block _ hl0).trans hp2
  have hfr : W0.frozen? ⟨w.heap.size + 1 + 1, 0, none⟩ = false := free_of_one hp2
  have hc2 : W0.cell? ⟨w.heap.size + 1 + 1, 0, none⟩ = some (.slice none 0 0) := cell_of_one hp2
  clear hW0 hb0 hp0 hp1 hp2 hcv hv hbd hok
  go_enter Tryd.func17, Tryd.ntmps17
  go_wp2_with fail
  rw [HW.out]
  go_quiet ((first
      | (go_at_call 45; exact quiet_dr (CIs.out _))))
  go_wp2_with fail
  refine bodyPost_ret (v := .tuple #[.agg #[.slice none 0 0], .bool false]) (by simp [results, Tryd.results17, go_sem, cell_of_one (one_setCell (PN.out nq))]) rfl ⟨_, _, _, rfl, World.ownsRow_nil _ _ _ _, ?_⟩
  exact (B0.out.trans (Joins.below_draws _ _ _)).setCell (by simp; omega) _

set_option maxHeartbeats 2000000 in
set_option maxRecDepth 100000 in
theorem spec_Crop_n2 (v : Value) (ss : List ByteArray) (x y wd hh : Int) (w : World) (hN : ss.length ≤ maxLen) (hz : ∀ s ∈ ss, s.size ≤ maxLen) (hv : Sl w v ss) (hok : validB ss = true) (hin : insB (row0 ss).size ss.length x y = false) :
    Calls Tryd.prog 17 #[.agg #[v], .agg #[.int .i64 x, .int .i64 y], .int .i64 wd, .int .i64 hh] w (SaysPic [] false w) := by
  obtain ⟨W0, hW0, hb0, hl0, hp0, hp1, hp2⟩ := begin3 w v x y
  have hcv : W0.cell? ⟨w.heap.size, 0, none⟩ = some v := cell_of_one hp0
  have hx1 : W0.cell? ⟨w.heap.size + 1, 0, none⟩ = some (.int .i64 x) := (Joins.cell_of_block hp1 0).trans rfl
  have hy1' : W0.cell? ⟨w.heap.size + 1, 1, none⟩ = some (.int .i64 y) := (Joins.cell_of_block hp1 1).trans rfl
  have hbd : ∀ n, Below W0.heap.size W0 (W0.drewN n) := fun n => Joins.below_draws _ _ _
  have CIs : Hid (∀ n, Calls Tryd.prog 45 #[.pointer (some ⟨w.heap.size, 0, none⟩)] (W0.drewN n) (QuietB true (W0.drewN n))) := fun n => by
    have := l01Is_quiet w.heap.size 0 v ss (W0.drewN n) (cell_kept (hbd n) hcv) ((hv.below hb0).below (hbd n)) hN hz
    rwa [hok] at this
  have HPA : Hid (∀ n, PicAt (W0.drewN n) w.heap.size 0 ss) := fun n => ⟨hok, v, cell_kept (hbd n) hcv, (hv.below hb0).below (hbd n)⟩
  have CHas : Hid (∀ n, Calls Tryd.prog 46 #[.pointer (some ⟨w.heap.size, 0, none⟩), .int .i64 x, .int .i64 y] (W0.drewN n) (fun e w' => e = .returned (.bool false) ∧ W0.drewN n = w')) := fun n => by
    have := l01Has_any w.heap.size 0 ss x y (W0.drewN n) (HPA.out n)
    rwa [hin] at this
  have HW := Lib.hid hW0
  have B0 := Lib.hid hb0
  have P0 := Lib.hid hp2
  have PN : Hid (∀ n, (W0.drewN n).heap[w.heap.size + 1 + 1]? = some (.cells #[.slice none 0 0] 26 (0, 0))) := fun n => ((hbd n).block _ hl0).trans hp2
  have hfr : W0.frozen? ⟨w.heap.size + 1 + 1, 0, none⟩ = false := free_of_one hp2
  have hc2 : W0.cell? ⟨w.heap.size + 1 + 1, 0, none⟩ = some (.slice none 0 0) := cell_of_one hp2
  clear hW0 hb0 hp0 hp1 hp2 hcv hv hbd hok hin
  go_enter Tryd.func17, Tryd.ntmps17
  go_wp2_with fail
  rw [HW.out]
  go_quiet ((first
      | (go_at_call 45; exact quiet_dr (CIs.out _))
      | (go_at_call 46; exact quiet_left (CHas.out _))))
  go_wp2_with fail
  refine bodyPost_ret (v := .tuple #[.agg #[.slice none 0 0], .bool false]) (by simp [results, Tryd.results17, go_sem, cell_of_one (one_setCell (PN.out nq))]) rfl ⟨_, _, _, rfl, World.ownsRow_nil _ _ _ _, ?_⟩
  exact (B0.out.trans (Joins.below_draws _ _ _)).setCell (by simp; omega) _

set_option maxHeartbeats 2000000 in
set_option maxRecDepth 100000 in
theorem spec_Crop_n3 (v : Value) (ss : List ByteArray) (x y wd hh : Int) (w : World) (hN : ss.length ≤ maxLen) (hz : ∀ s ∈ ss, s.size ≤ maxLen) (hv : Sl w v ss) (hok : validB ss = true) (hin : insB (row0 ss).size ss.length x y = true) (hiw : inB wd 1 ((row0 ss).size - x) = false) :
    Calls Tryd.prog 17 #[.agg #[v], .agg #[.int .i64 x, .int .i64 y], .int .i64 wd, .int .i64 hh] w (SaysPic [] false w) := by
  obtain ⟨W0, hW0, hb0, hl0, hp0, hp1, hp2⟩ := begin3 w v x y
  have hcv : W0.cell? ⟨w.heap.size, 0, none⟩ = some v := cell_of_one hp0
  have hx1 : W0.cell? ⟨w.heap.size + 1, 0, none⟩ = some (.int .i64 x) := (Joins.cell_of_block hp1 0).trans rfl
  have hy1' : W0.cell? ⟨w.heap.size + 1, 1, none⟩ = some (.int .i64 y) := (Joins.cell_of_block hp1 1).trans rfl
  have hbd : ∀ n, Below W0.heap.size W0 (W0.drewN n) := fun n => Joins.below_draws _ _ _
  have CIs : Hid (∀ n, Calls Tryd.prog 45 #[.pointer (some ⟨w.heap.size, 0, none⟩)] (W0.drewN n) (QuietB true (W0.drewN n))) := fun n => by
    have := l01Is_quiet w.heap.size 0 v ss (W0.drewN n) (cell_kept (hbd n) hcv) ((hv.below hb0).below (hbd n)) hN hz
    rwa [hok] at this
  have HPA : Hid (∀ n, PicAt (W0.drewN n) w.heap.size 0 ss) := fun n => ⟨hok, v, cell_kept (hbd n) hcv, (hv.below hb0).below (hbd n)⟩
  have CHas : Hid (∀ n, Calls Tryd.prog 46 #[.pointer (some ⟨w.heap.size, 0, none⟩), .int .i64 x, .int .i64 y] (W0.drewN n) (fun e w' => e = .returned (.bool true) ∧ W0.drewN n = w')) := fun n => by
    have := l01Has_any w.heap.size 0 ss x y (W0.drewN n) (HPA.out n)
    rwa [hin] at this
  have V := vp_of hok
  have hw16 := V.w16
  have hn16 := V.n16
  have hin2 := hin
  unfold insB inB at hin2
  simp only [Bool.and_eq_true, decide_eq_true_eq] at hin2
  obtain ⟨⟨hx0, hx1b⟩, hy0, hy1b⟩ := hin2
  have CW : Hid (∀ n, Calls Tryd.prog 47 #[.pointer (some ⟨w.heap.size, 0, none⟩)] (W0.drewN n) (fun e w' => e = .returned (.int .i64 (row0 ss).size) ∧ W0.drewN n = w')) := fun n => l01Width_any _ _ ss _ (HPA.out n)
  have CH : Hid (∀ n, Calls Tryd.prog 48 #[.pointer (some ⟨w.heap.size, 0, none⟩)] (W0.drewN n) (fun e w' => e = .returned (.int .i64 ss.length) ∧ W0.drewN n = w')) := fun n => l01Height_any _ _ ss _ (HPA.out n)
  obtain ⟨a, ha⟩ : ∃ a, (row0 ss).size = a := ⟨_, rfl⟩
  obtain ⟨b, hbb⟩ : ∃ a, ss.length = a := ⟨_, rfl⟩
  rw [ha] at CW hx1b hw16 hiw
  rw [hbb] at CH hy1b hn16
  have k1 : IntKind.i64.wrap ((a : Int) - x) = (a : Int) - x := IntWalk.i64_in _ (by omega)
  have CI1 : Hid (∀ n, Calls Tryd.prog 35 #[.int .i64 wd, .int .i64 1, .int .i64 ((a : Int) - x)] (W0.drewN n) (fun e w' => e = .returned (.bool false) ∧ W0.drewN n = w')) := fun n => by
    have := l00In_any wd 1 ((a : Int) - x) (W0.drewN n)
    rwa [hiw] at this
  have HW := Lib.hid hW0
  have B0 := Lib.hid hb0
  have P0 := Lib.hid hp2
  have PN : Hid (∀ n, (W0.drewN n).heap[w.heap.size + 1 + 1]? = some (.cells #[.slice none 0 0] 26 (0, 0))) := fun n => ((hbd n).block _ hl0).trans hp2
  have hfr : W0.frozen? ⟨w.heap.size + 1 + 1, 0, none⟩ = false := free_of_one hp2
  have hc2 : W0.cell? ⟨w.heap.size + 1 + 1, 0, none⟩ = some (.slice none 0 0) := cell_of_one hp2
  clear hW0 hb0 hp0 hp1 hp2 hcv hv hbd hok hin hiw V ha hbb
  go_enter Tryd.func17, Tryd.ntmps17
  go_wp2_with fail
  rw [HW.out]
  go_quiet ((first
      | (go_at_call 45; exact quiet_dr (CIs.out _))
      | (go_at_call 46; exact quiet_left (CHas.out _))
      | (go_at_call 47; exact quiet_left (CW.out _))
      | (go_at_call 35; with_reducible exact quiet_left (CI1.out _))))
  go_wp2_with fail
  refine bodyPost_ret (v := .tuple #[.agg #[.slice none 0 0], .bool false]) (by simp [results, Tryd.results17, go_sem, cell_of_one (one_setCell (PN.out nq))]) rfl ⟨_, _, _, rfl, World.ownsRow_nil _ _ _ _, ?_⟩
  exact (B0.out.trans (Joins.below_draws _ _ _)).setCell (by simp; omega) _

set_option maxHeartbeats 2000000 in
set_option maxRecDepth 100000 in
theorem spec_Crop_n4 (v : Value) (ss : List ByteArray) (x y wd hh : Int) (w : World) (hN : ss.length ≤ maxLen) (hz : ∀ s ∈ ss, s.size ≤ maxLen) (hv : Sl w v ss) (hok : validB ss = true) (hin : insB (row0 ss).size ss.length x y = true) (hiw : inB wd 1 ((row0 ss).size - x) = true) (hih : inB hh 1 (ss.length - y) = false) :
    Calls Tryd.prog 17 #[.agg #[v], .agg #[.int .i64 x, .int .i64 y], .int .i64 wd, .int .i64 hh] w (SaysPic [] false w) := by
  obtain ⟨W0, hW0, hb0, hl0, hp0, hp1, hp2⟩ := begin3 w v x y
  have hcv : W0.cell? ⟨w.heap.size, 0, none⟩ = some v := cell_of_one hp0
  have hx1 : W0.cell? ⟨w.heap.size + 1, 0, none⟩ = some (.int .i64 x) := (Joins.cell_of_block hp1 0).trans rfl
  have hy1' : W0.cell? ⟨w.heap.size + 1, 1, none⟩ = some (.int .i64 y) := (Joins.cell_of_block hp1 1).trans rfl
  have hbd : ∀ n, Below W0.heap.size W0 (W0.drewN n) := fun n => Joins.below_draws _ _ _
  have CIs : Hid (∀ n, Calls Tryd.prog 45 #[.pointer (some ⟨w.heap.size, 0, none⟩)] (W0.drewN n) (QuietB true (W0.drewN n))) := fun n => by
    have := l01Is_quiet w.heap.size 0 v ss (W0.drewN n) (cell_kept (hbd n) hcv) ((hv.below hb0).below (hbd n)) hN hz
    rwa [hok] at this
  have HPA : Hid (∀ n, PicAt (W0.drewN n) w.heap.size 0 ss) := fun n => ⟨hok, v, cell_kept (hbd n) hcv, (hv.below hb0).below (hbd n)⟩
  have CHas : Hid (∀ n, Calls Tryd.prog 46 #[.pointer (some ⟨w.heap.size, 0, none⟩), .int .i64 x, .int .i64 y] (W0.drewN n) (fun e w' => e = .returned (.bool true) ∧ W0.drewN n = w')) := fun n => by
    have := l01Has_any w.heap.size 0 ss x y (W0.drewN n) (HPA.out n)
    rwa [hin] at this
  have V := vp_of hok
  have hw16 := V.w16
  have hn16 := V.n16
  have hin2 := hin
  unfold insB inB at hin2
  simp only [Bool.and_eq_true, decide_eq_true_eq] at hin2
  obtain ⟨⟨hx0, hx1b⟩, hy0, hy1b⟩ := hin2
  have CW : Hid (∀ n, Calls Tryd.prog 47 #[.pointer (some ⟨w.heap.size, 0, none⟩)] (W0.drewN n) (fun e w' => e = .returned (.int .i64 (row0 ss).size) ∧ W0.drewN n = w')) := fun n => l01Width_any _ _ ss _ (HPA.out n)
  have CH : Hid (∀ n, Calls Tryd.prog 48 #[.pointer (some ⟨w.heap.size, 0, none⟩)] (W0.drewN n) (fun e w' => e = .returned (.int .i64 ss.length) ∧ W0.drewN n = w')) := fun n => l01Height_any _ _ ss _ (HPA.out n)
  obtain ⟨a, ha⟩ : ∃ a, (row0 ss).size = a := ⟨_, rfl⟩
  obtain ⟨b, hbb⟩ : ∃ a, ss.length = a := ⟨_, rfl⟩
  rw [ha] at CW hx1b hw16 hiw
  rw [hbb] at CH hy1b hn16 hih
  have k1 : IntKind.i64.wrap ((a : Int) - x) = (a : Int) - x := IntWalk.i64_in _ (by omega)
  have CI1 : Hid (∀ n, Calls Tryd.prog 35 #[.int .i64 wd, .int .i64 1, .int .i64 ((a : Int) - x)] (W0.drewN n) (fun e w' => e = .returned (.bool true) ∧ W0.drewN n = w')) := fun n => by
    have := l00In_any wd 1 ((a : Int) - x) (W0.drewN n)
    rwa [hiw] at this
  have k2 : IntKind.i64.wrap ((b : Int) - y) = (b : Int) - y := IntWalk.i64_in _ (by omega)
  have CI2 : Hid (∀ n, Calls Tryd.prog 35 #[.int .i64 hh, .int .i64 1, .int .i64 ((b : Int) - y)] (W0.drewN n) (fun e w' => e = .returned (.bool false) ∧ W0.drewN n = w')) := fun n => by
    have := l00In_any hh 1 ((b : Int) - y) (W0.drewN n)
    rwa [hih] at this
  have HW := Lib.hid hW0
  have B0 := Lib.hid hb0
  have P0 := Lib.hid hp2
  have PN : Hid (∀ n, (W0.drewN n).heap[w.heap.size + 1 + 1]? = some (.cells #[.slice none 0 0] 26 (0, 0))) := fun n => ((hbd n).block _ hl0).trans hp2
  have hfr : W0.frozen? ⟨w.heap.size + 1 + 1, 0, none⟩ = false := free_of_one hp2
  have hc2 : W0.cell? ⟨w.heap.size + 1 + 1, 0, none⟩ = some (.slice none 0 0) := cell_of_one hp2
  clear hW0 hb0 hp0 hp1 hp2 hcv hv hbd hok hin hiw hih V ha hbb
  go_enter Tryd.func17, Tryd.ntmps17
  go_wp2_with fail
  rw [HW.out]
  go_quiet ((first
      | (go_at_call 45; exact quiet_dr (CIs.out _))
      | (go_at_call 46; exact quiet_left (CHas.out _))
      | (go_at_call 47; exact quiet_left (CW.out _))
      | (go_at_call 48; exact quiet_left (CH.out _))
      | (go_at_call 35; with_reducible exact quiet_left (CI1.out _))
      | (go_at_call 35; with_reducible exact quiet_left (CI2.out _))))
  go_wp2_with fail
  refine bodyPost_ret (v := .tuple #[.agg #[.slice none 0 0], .bool false]) (by simp [results, Tryd.results17, go_sem, cell_of_one (one_setCell (PN.out nq))]) rfl ⟨_, _, _, rfl, World.ownsRow_nil _ _ _ _, ?_⟩
  exact (B0.out.trans (Joins.below_draws _ _ _)).setCell (by simp; omega) _

theorem spec_Crop_no (v : Value) (ss : List ByteArray) (x y wd hh : Int) (w : World) (hN : ss.length ≤ maxLen) (hz : ∀ s ∈ ss, s.size ≤ maxLen) (hv : Sl w v ss) (hno : cropOk ss x y wd hh = false) :
    Calls Tryd.prog 17 #[.agg #[v], .agg #[.int .i64 x, .int .i64 y], .int .i64 wd, .int .i64 hh] w (SaysPic [] false w) := by
  unfold cropOk at hno
  cases hok : validB ss with
  | false => exact spec_Crop_n1 v ss x y wd hh w hN hz hv hok
  | true =>
    cases hin : insB (row0 ss).size ss.length x y with
    | false => exact spec_Crop_n2 v ss x y wd hh w hN hz hv hok hin
    | true =>
      cases hiw : inB wd 1 ((row0 ss).size - x) with
      | false => exact spec_Crop_n3 v ss x y wd hh w hN hz hv hok hin hiw
      | true =>
        refine spec_Crop_n4 v ss x y wd hh w hN hz hv hok hin hiw ?_
        rw [hok, hin, hiw] at hno
        simpa using hno
end Go.Proofs.YtmfaonddhmhjeaaDoor
