/- Contracts of single functions, and plain lemmas, on which the exact laws of this seat rest; each holds under the conditions that it states. -/
import Derived.Test.YtfdefbfakdndiaaDoorTf
import Derived.Test.YtfdefbfakdndiaaDoorTg
import Derived.Test.YtfdefbfakdndiaaDoorTh
import Derived.Test.YtfdefbfakdndiaaDoorTi
namespace Go.Proofs.YtfdefbfakdndiaaDoor
set_option linter.unusedVariables false
open Go.RowKit

set_option maxHeartbeats 2000000 in
set_option maxRecDepth 100000 in
theorem impl_Turn_no (v : Value) (ss : List ByteArray) (kind : Int) (w : World) (hN : ss.length ≤ maxLen) (hz : ∀ s ∈ ss, s.size ≤ maxLen) (hv : Sl w v ss) (he : ErrLen w) (hno : (validB ss && inB kind 0 3) = false) :
    Calls Tryd.prog 41 #[.agg #[v], .int .i64 kind] w (SaysPic [] false w) := by
  have hb0 : Below w.heap.size w ((w.alloc (.cells #[v] 28)).alloc (.cells #[.slice none 0 0] 28)) := Joins.below_alloc2 w _ _
  have hl1 : ((w.alloc (.cells #[v] 28)).alloc (.cells #[.slice none 0 0] 28)).heap[w.heap.size]? = some (.cells #[v] 28 (0, 0)) := by
    rw [Below.heap_alloc _ _ _ (by simp)]; exact heap_alloc_last w _
  have hl2 : ((w.alloc (.cells #[v] 28)).alloc (.cells #[.slice none 0 0] 28)).heap[w.heap.size + 1]? = some (.cells #[.slice none 0 0] 28 (0, 0)) := by
    have := heap_alloc_last (w.alloc (.cells #[v] 28)) (.cells #[.slice none 0 0] 28)
    simp only [World.size_alloc] at this
    exact this
  have L2 := Lib.hid hl2
  have hcv : ((w.alloc (.cells #[v] 28)).alloc (.cells #[.slice none 0 0] 28)).cell? ⟨w.heap.size, 0, none⟩ = some v := cell_of_one hl1
  have C := Lib.hid (matrixOf_any v ss _ hN hz (hv.below hb0) (he.below hb0))
  have hsz := matC_size ss
  have hone := matC_one ss
  unfold MatOf at C
  obtain ⟨M, hM⟩ : ∃ M, matC ss = M := ⟨_, rfl⟩
  rw [hM] at C hsz hone
  have HI : Hid ((Tryd.prog.info? 70).map (·.size) = some M.size) := by show _ = _; rw [hsz]; exact infoM
  have HZ := Lib.hid (zeros_size.trans hsz.symm)
  have HO := Lib.hid hone
  cases hok : validB ss with
  | false =>
    have HOk := Lib.hid hok
    clear hb0 hl1 hl2 hM hsz hone hv he hok hno
    go_enter Tryd.func41, Tryd.ntmps41
    go_wp2_with fail
    refine C.out.mono ?_
    rintro e w1 ⟨rfl, hb⟩
    rw [HOk.out]
    have B1 : Hid (Below w.heap.size w w1) := (Joins.below_alloc2 w _ _).trans (hb.mono (by simp; omega))
    have P1 := Lib.hid ((hb.block (w.heap.size + 1) (by simp)).trans L2.out)
    have hl1 : w.heap.size + 1 < w1.heap.size := (Array.getElem?_eq_some_iff.1 P1.out).1
    have Q1 := Lib.hid ((Below.heap_alloc w1 (.cells M 70) _ hl1).trans P1.out)
    have hfr : (w1.alloc (.cells M 70)).frozen? ⟨w.heap.size + 1, 0, none⟩ = false := free_of_one Q1.out
    have hc2 : (w1.alloc (.cells M 70)).cell? ⟨w.heap.size + 1, 0, none⟩ = some (.slice none 0 0) := cell_of_one Q1.out
    have HX := Lib.hid (after_alloc (M := M) (t2 := 70) (u := .slice none 0 0) P1.out B1.out (by omega))
    clear hb hcv
    go_wp2_with (refine wpList_store_new w1 rfl 70 _ _ rfl M rfl rfl 70 zeros HI.out HZ.out HO.out ?_)
    refine bodyPost_ret (v := .tuple #[.agg #[.slice none 0 0], .bool false]) (by simp [results, Tryd.results41, go_sem, HX.out.1]) rfl ⟨_, _, _, rfl, World.ownsRow_nil _ _ _ _, HX.out.2⟩
  | true =>
    have hr : ¬ (0 ≤ kind ∧ kind ≤ 3) := by
      unfold inB at hno; rw [hok] at hno; simp at hno; omega
    have HOk := Lib.hid hok
    clear hb0 hl1 hl2 hM hsz hone hv he hok hno
    go_enter Tryd.func41, Tryd.ntmps41
    go_wp2_with fail
    refine C.out.mono ?_
    rintro e w1 ⟨rfl, hb⟩
    rw [HOk.out]
    have B1 : Hid (Below w.heap.size w w1) := (Joins.below_alloc2 w _ _).trans (hb.mono (by simp; omega))
    have P1 := Lib.hid ((hb.block (w.heap.size + 1) (by simp)).trans L2.out)
    have hl1 : w.heap.size + 1 < w1.heap.size := (Array.getElem?_eq_some_iff.1 P1.out).1
    have Q1 := Lib.hid ((Below.heap_alloc w1 (.cells M 70) _ hl1).trans P1.out)
    have hfr : (w1.alloc (.cells M 70)).frozen? ⟨w.heap.size + 1, 0, none⟩ = false := free_of_one Q1.out
    have hc2 : (w1.alloc (.cells M 70)).cell? ⟨w.heap.size + 1, 0, none⟩ = some (.slice none 0 0) := cell_of_one Q1.out
    have HX := Lib.hid (after_alloc (M := M) (t2 := 70) (u := .slice none 0 0) P1.out B1.out (by omega))
    clear hb hcv
    go_wp2_with (refine wpList_store_new w1 rfl 70 _ _ rfl M rfl rfl 70 zeros HI.out HZ.out HO.out ?_)
    all_goals refine bodyPost_ret (v := .tuple #[.agg #[.slice none 0 0], .bool false]) (by simp [results, Tryd.results41, go_sem, HX.out.1]) rfl ⟨_, _, _, rfl, World.ownsRow_nil _ _ _ _, HX.out.2⟩
end Go.Proofs.YtfdefbfakdndiaaDoor
