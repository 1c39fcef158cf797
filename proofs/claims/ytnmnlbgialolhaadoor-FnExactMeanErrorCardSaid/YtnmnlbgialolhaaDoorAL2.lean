/- Contracts of single functions, and plain lemmas, on which the exact laws of this seat rest; each holds under the conditions that it states. -/
import Derived.Test.YtnmnlbgialolhaaDoorQb
import Derived.Test.YtnmnlbgialolhaaDoorRc
import Derived.Deep.RegionHeld3
import Derived.RegionTactic
import Derived.BigRegion
import Derived.Deep.RegionWith
import Derived.Test.YtnmnlbgialolhaaDoorAn
import Derived.Test.YtnmnlbgialolhaaDoorAL1
import Derived.Test.YtnmnlbgialolhaaDoorAi
namespace Go.Proofs.YtnmnlbgialolhaaDoor
set_option linter.unusedVariables false
set_option linter.unusedSimpArgs false
open Go.RowKit

/-! ### an argument that is a slice of spots -/
/-- the spots xs lie in w from block b, cell off on -/
def SpotsAt (w : World) (b off : Nat) (xs : List (Int × Int)) : Prop := b < w.heap.size ∧ ∀ i, i < xs.length → w.cell? ⟨b, off + i * 2, none⟩ = some (.int .i64 (xs.getD i (0, 0)).1) ∧ w.cell? ⟨b, off + i * 2 + 1, none⟩ = some (.int .i64 (xs.getD i (0, 0)).2)
theorem SpotsAt.below {w w' : World} {b off : Nat} {xs : List (Int × Int)} (h : SpotsAt w b off xs) (hb : Below w.heap.size w w') : SpotsAt w' b off xs :=
  ⟨Nat.lt_of_lt_of_le h.1 hb.size, fun i hi => ⟨cell_kept hb (h.2 i hi).1, cell_kept hb (h.2 i hi).2⟩⟩
def SlA (w : World) (v : Value) (xs : List (Int × Int)) : Prop :=
  (∃ ao cap, v = .slice ao 0 cap ∧ xs = []) ∨ (∃ b off cap, v = .slice (some ⟨b, off, none⟩) xs.length cap ∧ 0 < xs.length ∧ SpotsAt w b off xs)
theorem SlA.below {w w' : World} {v : Value} {xs : List (Int × Int)} (h : SlA w v xs) (hb : Below w.heap.size w w') : SlA w' v xs := by
  rcases h with h | ⟨b, off, cap, h1, h2, h3⟩
  · exact Or.inl h
  · exact Or.inr ⟨b, off, cap, h1, h2, h3.below hb⟩

/-- the first c cells are copied -/
def part2 (xs : List (Int × Int)) (n c : Nat) : List Value := (List.range (n * 2)).map fun j => if j < c then Value.int .i64 (spotC xs j) else Value.int .i64 0
theorem part2_full (xs : List (Int × Int)) (n : Nat) (h : xs.length = n) : part2 xs n (n * 2) = flat2 xs := by
  unfold part2 flat2
  rw [h]
  apply List.map_congr_left
  intro j hj
  simp only [List.mem_range] at hj
  rw [if_pos hj]
theorem part2_set (xs : List (Int × Int)) (n c : Nat) : (part2 xs n c).set c (.int .i64 (spotC xs c)) = part2 xs n (c + 1) := by
  unfold part2
  rw [set_map_range]
  apply List.map_congr_left
  intro j hj
  by_cases h1 : j = c
  · subst h1; simp
  · by_cases h2 : j < c
    · simp [h1, h2, show j < c + 1 from by omega]
    · simp [h1, h2, show ¬ j < c + 1 from by omega]
theorem part2_at (xs : List (Int × Int)) (n c : Nat) (h : c < n * 2) : (part2 xs n c)[c]? = some (.int .i64 0) := by
  unfold part2
  simp [h]
theorem part2_zero (xs : List (Int × Int)) (n : Nat) : (madeCells #[.int .i64 0, .int .i64 0] (n * 2)).toList = part2 xs n 0 := by
  unfold madeCells part2
  simp only [Nat.not_lt_zero, if_false]
  simp only [Array.toList_map, Array.toList_range]
  apply List.map_congr_left
  intro j hj
  have : j % 2 < 2 := Nat.mod_lt _ (by omega)
  show (#[Value.int .i64 0, Value.int .i64 0] : Array Value)[j % 2]! = _
  rcases Nat.mod_two_eq_zero_or_one j with h | h <;> rw [h] <;> rfl

/-- a copy of spots of the call's own -/
def TookSp (w : World) (n : Nat) (xs : List (Int × Int)) (e : Ending) (w' : World) : Prop := e = .returned (.slice (some ⟨w.heap.size, 0, none⟩) n n) ∧ OwnS w' w.heap.size (.slice (some ⟨w.heap.size, 0, none⟩) n n) xs ∧ Below w.heap.size w w'

end Go.Proofs.YtnmnlbgialolhaaDoor

/- Contracts of single functions, and plain lemmas, on which the exact laws of this seat rest; each holds under the conditions that it states. -/
namespace Go.Proofs.YtnmnlbgialolhaaDoor
set_option linter.unusedVariables false
set_option linter.unusedSimpArgs false
open Go.RowKit

/-- a copy of an element -/
def TookEl (w : World) (xs : List (Int × Int)) (e : Ending) (w' : World) : Prop := ∃ g cap, e = .returned (.agg #[.slice (some ⟨g, 0, none⟩) xs.length cap]) ∧ OwnS w' w.heap.size (.slice (some ⟨g, 0, none⟩) xs.length cap) xs ∧ Below w.heap.size w w'

end Go.Proofs.YtnmnlbgialolhaaDoor

/- Contracts of single functions, and plain lemmas, on which the exact laws of this seat rest; each holds under the conditions that it states. -/
namespace Go.Proofs.YtnmnlbgialolhaaDoor
set_option linter.unusedVariables false
open Go.RowKit

/-- an element's offsets -/
abbrev ElO (lo hi : Nat) (v : Value) (xs : List (Int × Int)) : World → Prop := Row 93 2 lo hi v xs.length (flat2 xs)
theorem ElO.of {W : World} {lo hi : Nat} {v : Value} {xs : List (Int × Int)} (h : OwnS W lo v xs) (hh : W.heap.size ≤ hi) : ElO lo hi v xs W :=
  ⟨h, fun j hj => Nat.lt_of_lt_of_le (h.lt j hj).2 hh⟩
theorem ElO.sl {W : World} {lo hi : Nat} {v : Value} {xs : List (Int × Int)} (h : ElO lo hi v xs W) : SlS W v xs := OwnS.sl h.o
/-- a row of one's own has room for what it holds -/
theorem own_capA {W : World} {base s n : Nat} {e : TypeId} {v : Value} {xs : List Value} (h : W.ownsRow base e s v n xs) : ∀ ao m c, v = .slice ao m c → m ≤ c := by
  intro ao m c hv
  rcases h.2 with ⟨rfl, rfl⟩ | ⟨g, cap, cur, rfl, _, _, hc, _⟩
  · cases hv; exact Nat.le_refl _
  · cases hv; exact hc
end Go.Proofs.YtnmnlbgialolhaaDoor
