/- Contracts of single functions, and plain lemmas, on which the exact laws of this seat rest; each holds under the conditions that it states. -/
import Derived.Test.YtabkkpifkkgpeaaDoorSp
import Derived.Test.YtabkkpifkkgpeaaDoorIs
import Derived.Test.YtabkkpifkkgpeaaDoorPb
namespace Go.Proofs.YtabkkpifkkgpeaaDoor
set_option linter.unusedVariables false
open Go.RowKit

theorem spec_PixelAt (v : Value) (ss : List ByteArray) (x y : Int) (w : World) (hN : ss.length ≤ maxLen) (hz : ∀ s ∈ ss, s.size ≤ maxLen) (hv : Sl w v ss) :
    Calls Tryd.prog 90 #[.agg #[v], .int .i64 x, .int .i64 y] w (SaysBB (pixVal ss x y) (pixOk ss x y) w) := by
  have hb0 := Joins.below_alloc1 w (.cells #[v] 42)
  have hc0 : (w.alloc (.cells #[v] 42)).cell? ⟨w.heap.size, 0, none⟩ = some v := by rw [World.cell?_alloc_mark]; rfl
  have C := Lib.hid (l01Is_any w.heap.size 0 v ss (w.alloc (.cells #[v] 42)) hc0 (hv.below hb0) hN hz)
  cases hok : validB ss with
  | false =>
    have e1 : Hid (pixVal ss x y = false) := by show pixVal ss x y = _; unfold pixVal; rw [hok]; rfl
    have e2 : Hid (pixOk ss x y = false) := by show pixOk ss x y = _; unfold pixOk; rw [hok]; rfl
    have HOk := Lib.hid hok
    clear hok hv hc0 hb0
    go_enter Tryd.func90, Tryd.ntmps90
    go_wp2_with fail
    refine C.out.mono ?_
    rintro e w' ⟨rfl, hb⟩
    rw [HOk.out]
    have HB := Lib.hid hb
    clear hb
    go_wp2_with fail
    go_ret2
    exact ⟨ret_bb (a := false) (b := false) e1.out.symm e2.out.symm, (Joins.below_alloc1 w _).trans (HB.out.mono (by simp))⟩
  | true =>
    have hp : Hid (∀ W, Below (w.alloc (.cells #[v] 42)).heap.size (w.alloc (.cells #[v] 42)) W → PicAt W w.heap.size 0 ss) := fun W hb =>
      ⟨hok, v, cell_kept hb hc0, (hv.below hb0).below hb⟩
    have HOk := Lib.hid hok
    cases hin : insB (row0 ss).size ss.length x y with
    | false =>
      have e1 : Hid (pixVal ss x y = false) := by show pixVal ss x y = _; unfold pixVal pixI; rw [hin]; simp
      have e2 : Hid (pixOk ss x y = false) := by show pixOk ss x y = _; unfold pixOk; rw [hin]; simp
      have HIN := Lib.hid hin
      clear hok hv hc0 hb0 hin
      go_enter Tryd.func90, Tryd.ntmps90
      go_wp2_with fail
      refine C.out.mono ?_
      rintro e w' ⟨rfl, hb⟩
      rw [HOk.out]
      have HB := Lib.hid hb
      clear hb
      go_wp2_with fail
      refine (l01Has_any w.heap.size 0 ss x y _ (hp.out _ HB.out)).mono ?_
      rintro e w' ⟨rfl, rfl⟩
      rw [HIN.out]
      go_wp2_with fail
      go_ret2
      exact ⟨ret_bb (a := false) (b := false) e1.out.symm e2.out.symm, (Joins.below_alloc1 w _).trans (HB.out.mono (by simp))⟩
    | true =>
      have e1 : Hid (pixVal ss x y = pixI ss x y) := by show pixVal ss x y = _; unfold pixVal; rw [hok]; rfl
      have e2 : Hid (pixOk ss x y = true) := by show pixOk ss x y = _; unfold pixOk; rw [hin, hok]; rfl
      have HIN := Lib.hid hin
      clear hok hv hc0 hb0 hin
      go_enter Tryd.func90, Tryd.ntmps90
      go_wp2_with fail
      refine C.out.mono ?_
      rintro e w' ⟨rfl, hb⟩
      rw [HOk.out]
      have HB := Lib.hid hb
      clear hb
      go_wp2_with fail
      refine (l01Has_any w.heap.size 0 ss x y _ (hp.out _ HB.out)).mono ?_
      rintro e w' ⟨rfl, rfl⟩
      rw [HIN.out]
      go_wp2_with fail
      refine (l01Black_any w.heap.size 0 ss x y _ (hp.out _ HB.out)).mono ?_
      rintro e w' ⟨rfl, rfl⟩
      go_wp2_with fail
      go_ret2
      exact ⟨ret_bb (b := true) e1.out.symm e2.out.symm, (Joins.below_alloc1 w _).trans (HB.out.mono (by simp))⟩

end Go.Proofs.YtabkkpifkkgpeaaDoor
