/- Contracts of single functions, and plain lemmas, on which the exact laws of this seat rest; each holds under the conditions that it states. -/
import Derived.Test.YtakaglbbcaplhaaDoorD4
namespace Go.Proofs.YtakaglbbcaplhaaDoor
set_option linter.unusedVariables false
set_option linter.unusedSimpArgs false
open Go.RowKit
attribute [local go_sem] Oper.semAt_some

theorem call_Far1 : ∀ args (W : World), (callFunc 96 args).run Tryd.prog W = .ok (.enter 96 args) W := by
  intro args W
  first | (go_simp; done) | (simp [callFunc, go_sem]; done) | kernel_rfl

set_option maxHeartbeats 4000000 in
set_option maxRecDepth 100000 in
theorem impl_FarSpots (k ax ay bx b_y : Int) (w : World) (hn : NoRes w) :
    Calls Tryd.prog 42 #[.int .i64 k, .agg #[.int .i64 ax, .int .i64 ay], .agg #[.int .i64 bx, .int .i64 b_y]] w (SaysIOk (fsV k ax ay bx b_y) (fsOk k ax ay bx b_y) w) := by
  obtain ⟨W0, hW0⟩ : ∃ W0, (((w.alloc (.cells #[.int .i64 k] 2)).alloc (.cells #[.int .i64 ax, .int .i64 ay] 31)).alloc (.cells #[.int .i64 bx, .int .i64 b_y] 31)) = W0 := ⟨_, rfl⟩
  have b0 : Below w.heap.size w W0 := by rw [← hW0]; exact Joins.below_alloc3 _ _ _ _
  have hs0 : W0.heap.size = w.heap.size + 1 + 1 + 1 := by rw [← hW0]; simp
  have hk0 : W0.heap[w.heap.size]? = some (.cells #[.int .i64 k] 2 (0, 0)) := by
    rw [← hW0, Below.heap_alloc _ _ _ (by simp; omega), Below.heap_alloc _ _ _ (by simp)]; exact heap_alloc_last w _
  have ha0 : W0.heap[w.heap.size + 1]? = some (.cells #[.int .i64 ax, .int .i64 ay] 31 (0, 0)) := by
    rw [← hW0, Below.heap_alloc _ _ _ (by simp)]
    exact heap_alloc2_new _ _ _
  have hr0 : W0.heap[w.heap.size + 1 + 1]? = some (.cells #[.int .i64 bx, .int .i64 b_y] 31 (0, 0)) := by
    rw [← hW0]
    have := heap_alloc_last ((w.alloc (.cells #[.int .i64 k] 2)).alloc (.cells #[.int .i64 ax, .int .i64 ay] 31)) (.cells #[.int .i64 bx, .int .i64 b_y] 31)
    simpa only [World.size_alloc] using this
  have HF : FsAt W0 (w.heap.size + 1) (w.heap.size + 1 + 1) w.heap.size k ax ay bx b_y :=
    ⟨⟨by rw [Joins.cell_of_block ha0 0]; rfl, by rw [Joins.cell_of_block ha0 1]; rfl⟩, ⟨by rw [Joins.cell_of_block hr0 0]; rfl, by rw [Joins.cell_of_block hr0 1]; rfl⟩, by rw [Joins.cell_of_block hk0 0]; rfl⟩
  have hmf : ∀ (fn : Fn) (first cap : Array Value) (w : World), (Instr.makeFunc fn first cap).run Tryd.prog w = .ok (.func fn first cap) w := fun _ _ _ _ => rfl
  have B0 := Lib.hid b0
  have HW := Lib.hid hW0
  cases hok : fsOk k ax ay bx b_y with
  | true =>
    have C := Lib.hid (attemptI_yes 96 #[.pointer (some ⟨w.heap.size + 1, 0, none⟩), .pointer (some ⟨w.heap.size + 1 + 1, 0, none⟩), .pointer (some ⟨w.heap.size, 0, none⟩)] W0 (fun v W w' => v = .int .i64 (farI k ax ay bx b_y)) call_Far1 (fun W hb => (far1_yes (w.heap.size + 1) (w.heap.size + 1 + 1) w.heap.size k ax ay bx b_y W (HF.below hb) hok).mono (fun e w' ⟨r, he, hr, hb⟩ => ⟨r, he, by rw [hr], hb⟩)))
    have HV : Hid (fsV k ax ay bx b_y = farI k ax ay bx b_y) := by show _ = _; unfold fsV; rw [if_pos hok]
    obtain ⟨d, hd⟩ : ∃ d, farI k ax ay bx b_y = d := ⟨_, rfl⟩
    rw [hd] at C HV
    clear hn hd hok HF b0 hs0 hk0 ha0 hr0 hW0
    go_enter Tryd.func42, Tryd.ntmps42
    go_wp2_with fail
    rw [HW.out]
    refine C.out.mono ?_
    rintro e w1 ⟨r, w2, rfl, hQ, hb, rfl, r1, r2⟩
    obtain rfl : r = d := by injection hQ
    have hs := B0.out.size
    have HB := Lib.hid (((B0.out.trans (hb.mono hs)).setCell (p := ⟨W0.heap.size, 0, none⟩) hs (.int .i64 r)).setCell (p := ⟨W0.heap.size + 1, 0, none⟩) (by show w.heap.size ≤ W0.heap.size + 1; omega) (.bool true))
    clear hQ hb r1 r2
    go_wp2_with fail
    go_ret2
    rw [HV.out]
    exact ⟨rfl, HB.out⟩
  | false =>
    have C := Lib.hid (attemptI_no 96 #[.pointer (some ⟨w.heap.size + 1, 0, none⟩), .pointer (some ⟨w.heap.size + 1 + 1, 0, none⟩), .pointer (some ⟨w.heap.size, 0, none⟩)] W0 call_Far1 (fun W hb => far1_no (w.heap.size + 1) (w.heap.size + 1 + 1) w.heap.size k ax ay bx b_y W (HF.below hb) ((hn.below b0).below hb) hok))
    have HV : Hid (fsV k ax ay bx b_y = 0) := by show _ = _; unfold fsV; rw [if_neg (by rw [hok]; decide)]
    clear hn hok HF b0 hs0 hk0 ha0 hr0 hW0
    go_enter Tryd.func42, Tryd.ntmps42
    go_wp2_with fail
    rw [HW.out]
    refine C.out.mono ?_
    rintro e w1 ⟨rfl, hb⟩
    have HB := Lib.hid (B0.out.trans (hb.mono B0.out.size))
    clear hb
    go_wp2_with fail
    go_ret2
    rw [HV.out]
    exact ⟨rfl, HB.out⟩

end Go.Proofs.YtakaglbbcaplhaaDoor
