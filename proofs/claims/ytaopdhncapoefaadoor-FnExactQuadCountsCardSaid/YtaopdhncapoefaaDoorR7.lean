/- Contracts of single functions, and plain lemmas, on which the exact laws of this seat rest; each holds under the conditions that it states. -/
import Derived.Test.YtaopdhncapoefaaDoorR6
namespace Go.Proofs.YtaopdhncapoefaaDoor
set_option linter.unusedVariables false
set_option linter.unusedSimpArgs false
open Go.RowKit

theorem call_QuadWork : ∀ args (W : World), (callFunc 40 args).run Tryd.prog W = .ok (.enter 40 args) W := by
  intro args W
  first | (go_simp; done) | (simp [callFunc, go_sem]; done) | kernel_rfl

set_option maxHeartbeats 4000000 in
set_option maxRecDepth 100000 in
theorem impl_Quad (v : Value) (ss : List ByteArray) (w : World) (hN : ss.length ≤ maxLen) (hz : ∀ s ∈ ss, s.size ≤ maxLen) (hv : Sl w v ss) (he : ErrLen w) (hn : NoRes w) (hR : RightP w) :
    Calls Tryd.prog 13 #[.agg #[v]] w (SaysN (qcV ss) (validB ss) w) := by
  have hb0 := Joins.below_alloc1 w (.cells #[v] 28)
  have hc0 : (w.alloc (.cells #[v] 28)).cell? ⟨w.heap.size, 0, none⟩ = some v := cell_of_one (heap_alloc_last w _)
  cases hok : validB ss with
  | true =>
    have C := Lib.hid (attemptN_yes 40 w.heap.size (w.alloc (.cells #[v] 28)) (fun v W w' => OwnN w' W.heap.size v (qcV ss)) call_QuadWork (fun W hb => quadWork_yes w.heap.size v ss W (cell_kept hb hc0) hN hz ((hv.below hb0).below hb) ((he.below hb0).below hb) ((hR.below hb0).below hb) hok))
    have HB0 := Lib.hid hb0
    obtain ⟨ns, hns⟩ : ∃ ns, qcV ss = ns := ⟨_, rfl⟩
    rw [hns] at C ⊢
    have hmf : ∀ (fn : Fn) (first cap : Array Value) (w : World), (Instr.makeFunc fn first cap).run Tryd.prog w = .ok (.func fn first cap) w := fun _ _ _ _ => rfl
    clear hv he hn hR hns hc0 hb0 hok
    go_enter Tryd.func13, Tryd.ntmps13
    go_wp2_with fail
    refine C.out.mono ?_
    rintro e w1 ⟨ao, n, cap, w2, rfl, hQ, hb, rfl, r1, r2⟩
    have hs0 := hb.size
    have hsw : (w.alloc (.cells #[v] 28)).heap.size = w.heap.size + 1 := by simp
    rw [hsw] at r1 r2 hs0
    have hQ' : OwnN w2 w.heap.size (.slice ao n cap) ns := hQ.mono (by simp; omega)
    have hO1 := own_set (u := .slice ao n cap) hQ' r1 (by decide)
    have r3 : (w2.setCell ⟨w.heap.size + 1, 0, none⟩ (.slice ao n cap)).heap[w.heap.size + 1 + 1]? = some (.cells #[.bool false] 4 (0, 0)) := (Below.heap_setCell _ _ _ _ (by simp)).trans r2
    have HO := Lib.hid (own_set (u := .bool true) hO1 r3 (by decide))
    have HB := Lib.hid (((HB0.out.trans (hb.mono (by simp))).setCell (p := ⟨w.heap.size + 1, 0, none⟩) (by simp) (.slice ao n cap)).setCell (p := ⟨w.heap.size + 1 + 1, 0, none⟩) (by simp; omega) (.bool true))
    rw [hsw]
    clear hQ hb r1 r2 r3 hQ' hO1 hsw hs0
    go_wp2_with fail
    go_ret2
    exact ⟨_, rfl, HO.out, HB.out⟩
  | false =>
    have C := Lib.hid (attemptN_no 40 w.heap.size (w.alloc (.cells #[v] 28)) call_QuadWork (fun W hb => quadWork_no w.heap.size v ss W (cell_kept hb hc0) hN hz ((hv.below hb0).below hb) ((he.below hb0).below hb) ((hn.below hb0).below hb) hok))
    have HB0 := Lib.hid hb0
    have hns : qcV ss = [] := by unfold qcV; rw [hok]; rfl
    rw [hns]
    have hmf : ∀ (fn : Fn) (first cap : Array Value) (w : World), (Instr.makeFunc fn first cap).run Tryd.prog w = .ok (.func fn first cap) w := fun _ _ _ _ => rfl
    clear hv he hn hR hns hc0 hb0 hok
    go_enter Tryd.func13, Tryd.ntmps13
    go_wp2_with fail
    refine C.out.mono ?_
    rintro e w1 ⟨rfl, hb⟩
    have HB := Lib.hid (HB0.out.trans (hb.mono (by simp)))
    clear hb
    go_wp2_with fail
    go_ret2
    exact ⟨_, rfl, OwnN.nil _ _, HB.out⟩
end Go.Proofs.YtaopdhncapoefaaDoor
