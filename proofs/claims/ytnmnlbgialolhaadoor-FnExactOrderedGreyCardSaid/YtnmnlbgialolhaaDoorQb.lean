/- Contracts of single functions, and plain lemmas, on which the exact laws of this seat rest; each holds under the conditions that it states. -/
import Derived.Test.YtnmnlbgialolhaaDoorPb
import Derived.Deep.RegionHeld3
import Derived.Test.YtnmnlbgialolhaaDoorRc
namespace Go.Proofs.YtnmnlbgialolhaaDoor
set_option linter.unusedVariables false
set_option linter.unusedSimpArgs false
open Go.RowKit

/-! ### slices of spots: two cells each -/
/-- the spots xs lie in w from block b on -/
def Spots (w : World) (b : Nat) (xs : List (Int × Int)) : Prop := b < w.heap.size ∧ ∀ i, i < xs.length → w.cell? ⟨b, i * 2, none⟩ = some (.int .i64 (xs.getD i (0, 0)).1) ∧ w.cell? ⟨b, i * 2 + 1, none⟩ = some (.int .i64 (xs.getD i (0, 0)).2)
theorem Spots.below {w w' : World} {b : Nat} {xs : List (Int × Int)} (h : Spots w b xs) (hb : Below w.heap.size w w') : Spots w' b xs :=
  ⟨Nat.lt_of_lt_of_le h.1 hb.size, fun i hi => ⟨cell_kept hb (h.2 i hi).1, cell_kept hb (h.2 i hi).2⟩⟩
/-- a slice of spots: empty, or its cells lie there -/
def SlS (w : World) (v : Value) (xs : List (Int × Int)) : Prop :=
  (∃ ao cap, v = .slice ao 0 cap ∧ xs = []) ∨ (∃ b cap, v = .slice (some ⟨b, 0, none⟩) xs.length cap ∧ 0 < xs.length ∧ Spots w b xs)
theorem SlS.below {w w' : World} {v : Value} {xs : List (Int × Int)} (h : SlS w v xs) (hb : Below w.heap.size w w') : SlS w' v xs := by
  rcases h with h | ⟨b, cap, h1, h2, h3⟩
  · exact Or.inl h
  · exact Or.inr ⟨b, cap, h1, h2, h3.below hb⟩

end Go.Proofs.YtnmnlbgialolhaaDoor

/- Contracts of single functions, and plain lemmas, on which the exact laws of this seat rest; each holds under the conditions that it states. -/
namespace Go.Proofs.YtnmnlbgialolhaaDoor
set_option linter.unusedVariables false
set_option linter.unusedSimpArgs false
open Go.RowKit

def spotC (xs : List (Int × Int)) (j : Nat) : Int := if j % 2 = 0 then (xs.getD (j / 2) (0, 0)).1 else (xs.getD (j / 2) (0, 0)).2
/-- the cells of a row of spots -/
def flat2 (xs : List (Int × Int)) : List Value := (List.range (xs.length * 2)).map fun j => Value.int .i64 (spotC xs j)
theorem flat2_len (xs : List (Int × Int)) : (flat2 xs).length = xs.length * 2 := by simp [flat2]
theorem flat2_at (xs : List (Int × Int)) (j : Nat) (h : j < xs.length * 2) : (flat2 xs)[j]? = some (.int .i64 (spotC xs j)) := by simp [flat2, h]
theorem spotC_x (xs : List (Int × Int)) (i : Nat) : spotC xs (i * 2) = (xs.getD i (0, 0)).1 := by
  unfold spotC; rw [if_pos (by omega), show i * 2 / 2 = i from by omega]
theorem spotC_y (xs : List (Int × Int)) (i : Nat) : spotC xs (i * 2 + 1) = (xs.getD i (0, 0)).2 := by
  unfold spotC; rw [if_neg (by omega), show (i * 2 + 1) / 2 = i from by omega]
/-- a slice of spots of the call's own -/
def OwnS (w : World) (base : Nat) (v : Value) (xs : List (Int × Int)) : Prop := w.ownsRow base 93 2 v xs.length (flat2 xs)
theorem OwnS.sl {w : World} {base : Nat} {v : Value} {xs : List (Int × Int)} (h : OwnS w base v xs) : SlS w v xs := by
  rcases Joins.ownsRow_forms h with ⟨rfl, h0⟩ | ⟨g, cap, rfl⟩
  · exact Or.inl ⟨none, 0, rfl, List.length_eq_zero_iff.1 h0⟩
  · by_cases h0 : xs.length = 0
    · have := List.length_eq_zero_iff.1 h0
      subst this
      exact Or.inl ⟨_, _, rfl, rfl⟩
    · refine Or.inr ⟨g, cap, rfl, by omega, (h.lt g rfl).2, fun i hi => ⟨?_, ?_⟩⟩
      · rw [h.cellAt (i * 2) (by omega), flat2_at xs _ (by omega), spotC_x]
      · rw [h.cellAt (i * 2 + 1) (by omega), flat2_at xs _ (by omega), spotC_y]

theorem OwnS.spots {w : World} {base g n cap : Nat} {xs : List (Int × Int)} (h : OwnS w base (.slice (some ⟨g, 0, none⟩) n cap) xs) : Spots w g xs := by
  refine ⟨(h.lt g rfl).2, fun i hi => ⟨?_, ?_⟩⟩
  · rcases Joins.ownsRow_forms h with ⟨h1, _⟩ | ⟨g', cap', h1⟩
    · cases h1
    · cases h1
      rw [h.cellAt (i * 2) (by omega), flat2_at xs _ (by omega), spotC_x]
  · rcases Joins.ownsRow_forms h with ⟨h1, _⟩ | ⟨g', cap', h1⟩
    · cases h1
    · cases h1
      rw [h.cellAt (i * 2 + 1) (by omega), flat2_at xs _ (by omega), spotC_y]

def marksS (k n : Nat) : List (Int × Int) := (List.range n).map fun i => (((k + i * 2 : Nat) : Int), ((k + i * 2 + 1 : Nat) : Int))
theorem marksS_len (k n : Nat) : (marksS k n).length = n := by simp [marksS]
theorem marksS_at (k n i : Nat) (h : i < n) : (marksS k n).getD i (0, 0) = (((k + i * 2 : Nat) : Int), ((k + i * 2 + 1 : Nat) : Int)) := by simp [marksS, h]
/-- the first c cells are marked -/
def partS (xs : List (Int × Int)) (k n c : Nat) : List Value := (List.range (n * 2)).map fun j => if j < c then Value.int .i64 ((k + j : Nat) : Int) else Value.int .i64 (spotC xs j)
theorem partS_zero (xs : List (Int × Int)) (k : Nat) : partS xs k xs.length 0 = flat2 xs := by
  unfold partS flat2
  simp only [Nat.not_lt_zero, if_false]
theorem partS_full (xs : List (Int × Int)) (k n : Nat) : partS xs k n (n * 2) = flat2 (marksS k n) := by
  unfold partS flat2
  rw [marksS_len]
  apply List.map_congr_left
  intro j hj
  simp only [List.mem_range] at hj
  rw [if_pos hj]
  rcases Nat.mod_two_eq_zero_or_one j with h | h
  · have e : j = j / 2 * 2 := by omega
    rw [e, spotC_x, marksS_at _ _ _ (by omega)]
  · have e : j = j / 2 * 2 + 1 := by omega
    rw [e, spotC_y, marksS_at _ _ _ (by omega)]
    rfl
theorem partS_set (xs : List (Int × Int)) (k n c : Nat) : (partS xs k n c).set c (.int .i64 ((k + c : Nat) : Int)) = partS xs k n (c + 1) := by
  unfold partS
  rw [set_map_range]
  apply List.map_congr_left
  intro j hj
  by_cases h1 : j = c
  · subst h1; simp
  · by_cases h2 : j < c
    · simp [h1, h2, show j < c + 1 from by omega]
    · simp [h1, h2, show ¬ j < c + 1 from by omega]
theorem partS_at (xs : List (Int × Int)) (k n c : Nat) (h : c < n * 2) : (partS xs k n c)[c]? = some (.int .i64 (spotC xs c)) := by
  unfold partS
  simp [h]

def MarkedS (w : World) (base : Nat) (v : Value) (k n : Nat) (e : Ending) (w' : World) : Prop := e = .returned (.int .i64 ((k + n * 2 : Nat) : Int)) ∧ OwnS w' base v (marksS k n) ∧ w.grownBy w' v.ownBlock

/-- a slice of spots and a bool handed back -/
def SaysSp (xs : List (Int × Int)) (ok : Bool) (w : World) (e : Ending) (w' : World) : Prop :=
  ∃ ao n cap, e = .returned (.tuple #[.slice ao n cap, .bool ok]) ∧ OwnS w' w.heap.size (.slice ao n cap) xs ∧ Below w.heap.size w w'
end Go.Proofs.YtnmnlbgialolhaaDoor
