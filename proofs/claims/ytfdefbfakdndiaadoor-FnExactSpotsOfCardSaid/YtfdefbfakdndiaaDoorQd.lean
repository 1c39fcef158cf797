/- Contracts of single functions, and plain lemmas, on which the exact laws of this seat rest; each holds under the conditions that it states. -/
import Derived.Test.YtfdefbfakdndiaaDoorQc
import Derived.Test.YtfdefbfakdndiaaDoorTe
namespace Go.Proofs.YtfdefbfakdndiaaDoor
set_option linter.unusedVariables false
set_option linter.unusedSimpArgs false
open Go.RowKit

/-- a slice of spots and a bool handed back -/
def SaysSp (xs : List (Int × Int)) (ok : Bool) (w : World) (e : Ending) (w' : World) : Prop :=
  ∃ ao n cap, e = .returned (.tuple #[.slice ao n cap, .bool ok]) ∧ OwnS w' w.heap.size (.slice ao n cap) xs ∧ Below w.heap.size w w'
def spV (ss : List ByteArray) : List (Int × Int) := if validB ss then spL (pixF ss) (row0 ss).size ((row0 ss).size * ss.length) else []

set_option maxHeartbeats 1000000 in
set_option maxRecDepth 100000 in
theorem spec_Spots (v : Value) (ss : List ByteArray) (w : World) (hN : ss.length ≤ maxLen) (hz : ∀ s ∈ ss, s.size ≤ maxLen) (hv : Sl w v ss) :
    Calls Tryd.prog 18 #[.agg #[v]] w (SaysSp (spV ss) (validB ss) w) := by
  have hb0 := Joins.below_alloc1 w (.cells #[v] 28)
  have hc0 : (w.alloc (.cells #[v] 28)).cell? ⟨w.heap.size, 0, none⟩ = some v := by rw [World.cell?_alloc_mark]; rfl
  have C := Lib.hid (l01Is_any w.heap.size 0 v ss (w.alloc (.cells #[v] 28)) hc0 (hv.below hb0) hN hz)
  cases hok : validB ss with
  | false =>
    have e1 : Hid (spV ss = []) := by show spV ss = _; unfold spV; rw [hok]; rfl
    have HOk := Lib.hid hok
    clear hok hv hc0 hb0
    go_enter Tryd.func18, Tryd.ntmps18
    go_wp2_with fail
    refine C.out.mono ?_
    rintro e w' ⟨rfl, hb⟩
    rw [HOk.out]
    have HB := Lib.hid hb
    clear hb
    go_wp2_with fail
    go_ret2
    rw [e1.out]
    exact ⟨_, _, _, rfl, World.ownsRow_nil _ _ _ _, (Joins.below_alloc1 w _).trans (HB.out.mono (by simp))⟩
  | true =>
    have hp : Hid (∀ W, Below (w.alloc (.cells #[v] 28)).heap.size (w.alloc (.cells #[v] 28)) W → PicAt W w.heap.size 0 ss) := fun W hb =>
      ⟨hok, v, cell_kept hb hc0, (hv.below hb0).below hb⟩
    have HOk := Lib.hid hok
    have e1 : Hid (spV ss = spL (pixF ss) (row0 ss).size ((row0 ss).size * ss.length)) := by show spV ss = _; unfold spV; rw [hok]; rfl
    clear hok hv hc0 hb0
    go_enter Tryd.func18, Tryd.ntmps18
    go_wp2_with fail
    refine C.out.mono ?_
    rintro e w' ⟨rfl, hb⟩
    rw [HOk.out]
    have HB := Lib.hid hb
    clear hb
    go_wp2_with fail
    refine (l01Spots_any w.heap.size 0 ss _ (hp.out _ HB.out)).mono ?_
    rintro e w2 ⟨v2, rfl, ⟨ao, n, cap, rfl⟩, hown, hb2⟩
    have B1 : Below w.heap.size w w' := (Joins.below_alloc1 w _).trans (HB.out.mono (by simp))
    have hs := B1.size
    have B2 := Lib.hid (B1.trans (hb2.mono hs))
    have O2 : Hid (OwnS w2 w.heap.size (.slice ao n cap) (spV ss)) := by
      show OwnS _ _ _ _
      rw [e1.out]
      exact Joins.ownsRow_le hown hs
    clear hown hb2 B1 hs
    go_wp2_with fail
    go_ret2
    exact ⟨_, _, _, rfl, O2.out, B2.out⟩
end Go.Proofs.YtfdefbfakdndiaaDoor
