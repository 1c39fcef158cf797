/- Contracts of single functions, and plain lemmas, on which the exact laws of this seat rest; each holds under the conditions that it states. -/
import Derived.Test.YtchcmbgbndccmaaDoorMo
import Derived.Test.YtchcmbgbndccmaaDoorSp
import Derived.Test.YtchcmbgbndccmaaDoorHd
namespace Go.Proofs.YtchcmbgbndccmaaDoor
set_option linter.unusedVariables false
open Go.RowKit

/-- two answers -/
theorem spec_ValidPicture (v : Value) (ss : List ByteArray) (w : World) (hN : ss.length ≤ maxLen) (hz : ∀ s ∈ ss, s.size ≤ maxLen) (hv : Sl w v ss) :
    Calls Tryd.prog 16 #[.agg #[v]] w (SaysB (validB ss) w) := by
  have C := Lib.hid (l01Is_any w.heap.size 0 v ss (w.alloc (.cells #[v] 27)) (by rw [World.cell?_alloc_mark]; rfl) (hv.below (Joins.below_alloc1 w _)) hN hz)
  go_enter Tryd.func16, Tryd.ntmps16
  go_wp2_with fail
  refine C.out.mono ?_
  rintro e w' ⟨rfl, hb⟩
  have HB := Lib.hid hb
  clear hb
  go_wp2_with fail
  go_ret
  exact ⟨rfl, (Joins.below_alloc1 w _).trans (HB.out.mono (by simp))⟩

set_option maxHeartbeats 400000 in
set_option maxRecDepth 100000 in
theorem impl_ValidPicture (v : Value) (ss : List ByteArray) (w : World) (hN : ss.length ≤ maxLen) (hz : ∀ s ∈ ss, s.size ≤ maxLen) (hv : Sl w v ss) (he : ErrLen w) :
    Calls Tryd.prog 18 #[.agg #[v]] w (SaysB (validB ss) w) := by
  have hb0 := Joins.below_alloc1 w (.cells #[v] 27)
  have C := Lib.hid (matrixOf_any v ss (w.alloc (.cells #[v] 27)) hN hz (hv.below hb0) (he.below hb0))
  have hsz := matC_size ss
  have hone := matC_one ss
  unfold MatOf at C
  obtain ⟨M, hM⟩ : ∃ M, matC ss = M := ⟨_, rfl⟩
  rw [hM] at C hsz hone
  have HI : Hid ((Tryd.prog.info? 71).map (·.size) = some M.size) := by show _ = _; rw [hsz]; exact infoM
  have HZ := Lib.hid (zeros_size.trans hsz.symm)
  have HO := Lib.hid hone
  clear hM hsz hone
  go_enter Tryd.func18, Tryd.ntmps18
  go_wp2_with fail
  refine C.out.mono ?_
  rintro e w1 ⟨rfl, hb⟩
  have HB := Lib.hid hb
  clear hb
  go_wp2_with (refine wpList_store_row rfl 71 _ _ rfl w1.heap.size M rfl rfl 71 zeros (heap_alloc_last w1 _) HI.out HZ.out HO.out ?_)
  go_ret
  refine ⟨rfl, ?_⟩
  have h1 : Below w.heap.size w w1 := (Joins.below_alloc1 w _).trans (HB.out.mono (by simp))
  exact setRow_below (h1.alloc h1.size _) h1.size _
end Go.Proofs.YtchcmbgbndccmaaDoor
