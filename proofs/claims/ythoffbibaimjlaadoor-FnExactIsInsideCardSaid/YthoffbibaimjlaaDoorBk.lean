/- Contracts of single functions, and plain lemmas, on which the exact laws of this seat rest; each holds under the conditions that it states. -/
import Derived.Test.YthoffbibaimjlaaDoorRt
import Derived.Test.YthoffbibaimjlaaDoorMc
namespace Go.Proofs.YthoffbibaimjlaaDoor
set_option linter.unusedVariables false
open Go.RowKit

/-- a picture of the call's own and a bool handed back -/
def SaysPic (ss : List ByteArray) (ok : Bool) (w : World) (e : Ending) (w' : World) : Prop :=
  ∃ ao n cap, e = .returned (.tuple #[.agg #[.slice ao n cap], .bool ok]) ∧ OwnP w' w.heap.size (.slice ao n cap) ss ∧ Below w.heap.size w w'
def NoPic (w : World) (e : Ending) (w' : World) : Prop := SaysPic [] false w e w'

theorem Tryd.info4 : (Tryd.prog.info? 4).map (fun i => (i.zero, i.size, i.bytes)) = some (some (.bool false), 1, 1) := by kernel_rfl

theorem own_set {w : World} {base n s P : Nat} {e : TypeId} {v u : Value} {cs : Array Value} {t : TypeId} {xs : List Value} (h : w.ownsRow base e s v n xs) (hP : w.heap[P]? = some (.cells cs t (0, 0))) (he : t ≠ e) : (w.setCell ⟨P, 0, none⟩ u).ownsRow base e s v n xs :=
  ownsRow_setCell_other h (a := ⟨P, 0, none⟩) (own_ne h hP he) u

theorem rep_false (n : Nat) (i : Nat) : (List.replicate n false).getD i false = false := by
  by_cases h : i < n
  · simp [List.getD, h]
  · simp [List.getD, h]
end Go.Proofs.YthoffbibaimjlaaDoor
