/- Contracts of single functions, and plain lemmas, on which the exact laws of this seat rest; each holds under the conditions that it states. -/
import Derived.Test.YtabkkpifkkgpeaaDoorPb
import Derived.Deep.RegionHeld3
namespace Go.Proofs.YtabkkpifkkgpeaaDoor
set_option linter.unusedVariables false
set_option linter.unusedSimpArgs false
open Go.RowKit

/-! ### slices of spots: two cells each -/
/-- the spots xs lie in w from block b on -/
def Spots (w : World) (b : Nat) (xs : List (Int × Int)) : Prop := b < w.heap.size ∧ ∀ i, i < xs.length → w.cell? ⟨b, i * 2, none⟩ = some (.int .i64 (xs.getD i (0, 0)).1) ∧ w.cell? ⟨b, i * 2 + 1, none⟩ = some (.int .i64 (xs.getD i (0, 0)).2)
theorem Spots.below {w w' : World} {b : Nat} {xs : List (Int × Int)} (h : Spots w b xs) (hb : Below w.heap.size w w') : Spots w' b xs :=
  ⟨Nat.lt_of_lt_of_le h.1 hb.size, fun i hi => ⟨cell_kept hb (h.2 i hi).1, cell_kept hb (h.2 i hi).2⟩⟩
/-- a slice of spots: empty, or its cells lie there -/
def SlS (w : World) (v : Value) (xs : List (Int × Int)) : Prop :=
  (∃ ao cap, v = .slice ao 0 cap ∧ xs = []) ∨ (∃ b cap, v = .slice (some ⟨b, 0, none⟩) xs.length cap ∧ 0 < xs.length ∧ Spots w b xs)
theorem SlS.below {w w' : World} {v : Value} {xs : List (Int × Int)} (h : SlS w v xs) (hb : Below w.heap.size w w') : SlS w' v xs := by
  rcases h with h | ⟨b, cap, h1, h2, h3⟩
  · exact Or.inl h
  · exact Or.inr ⟨b, cap, h1, h2, h3.below hb⟩

end Go.Proofs.YtabkkpifkkgpeaaDoor
