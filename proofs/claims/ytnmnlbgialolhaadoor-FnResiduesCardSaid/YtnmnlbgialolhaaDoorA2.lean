/- Contracts of single functions, and plain lemmas, on which the exact laws of this seat rest; each holds under the conditions that it states. -/
import Derived.Test.YtnmnlbgialolhaaDoorPb
import Derived.Deep.RegionHeld3
import Derived.Test.YtnmnlbgialolhaaDoorRc
import Derived.RangeFuncNested
import Derived.RangeFuncBound
import Derived.RangeFuncCalls
import Derived.RangeFuncLeaves
import Derived.RangeFuncBox
import Derived.Shelf.Abstract
import Derived.Shelf.RegionOpen
import Derived.WalkKit
import Derived.OwnWalkIn
import Derived.TacticsInMore
import Derived.LoopNIn
import Derived.LoopIn
import Derived.Maps.AppendAt
namespace Go.Proofs.YtnmnlbgialolhaaDoor
set_option linter.unusedVariables false
set_option linter.unusedSimpArgs false
open Go.RowKit

/-! ### slices of spots: two cells each -/
/-- the spots xs lie in w from block b on -/
def Spots (w : World) (b : Nat) (xs : List (Int × Int)) : Prop := b < w.heap.size ∧ ∀ i, i < xs.length → w.cell? ⟨b, i * 2, none⟩ = some (.int .i64 (xs.getD i (0, 0)).1) ∧ w.cell? ⟨b, i * 2 + 1, none⟩ = some (.int .i64 (xs.getD i (0, 0)).2)
theorem Spots.below {w w' : World} {b : Nat} {xs : List (Int × Int)} (h : Spots w b xs) (hb : Below w.heap.size w w') : Spots w' b xs :=
  ⟨Nat.lt_of_lt_of_le h.1 hb.size, fun i hi => ⟨cell_kept hb (h.2 i hi).1, cell_kept hb (h.2 i hi).2⟩⟩
/-- a slice of spots: empty, or its cells lie there -/
def SlS (w : World) (v : Value) (xs : List (Int × Int)) : Prop :=
  (∃ ao cap, v = .slice ao 0 cap ∧ xs = []) ∨ (∃ b cap, v = .slice (some ⟨b, 0, none⟩) xs.length cap ∧ 0 < xs.length ∧ Spots w b xs)
theorem SlS.below {w w' : World} {v : Value} {xs : List (Int × Int)} (h : SlS w v xs) (hb : Below w.heap.size w w') : SlS w' v xs := by
  rcases h with h | ⟨b, cap, h1, h2, h3⟩
  · exact Or.inl h
  · exact Or.inr ⟨b, cap, h1, h2, h3.below hb⟩

end Go.Proofs.YtnmnlbgialolhaaDoor

/- Contracts of single functions, and plain lemmas, on which the exact laws of this seat rest; each holds under the conditions that it states. -/
namespace Go.Proofs.YtnmnlbgialolhaaDoor
set_option linter.unusedVariables false
set_option linter.unusedSimpArgs false
open Go.RowKit

def spotC (xs : List (Int × Int)) (j : Nat) : Int := if j % 2 = 0 then (xs.getD (j / 2) (0, 0)).1 else (xs.getD (j / 2) (0, 0)).2
/-- the cells of a row of spots -/
def flat2 (xs : List (Int × Int)) : List Value := (List.range (xs.length * 2)).map fun j => Value.int .i64 (spotC xs j)
theorem flat2_len (xs : List (Int × Int)) : (flat2 xs).length = xs.length * 2 := by simp [flat2]
theorem flat2_at (xs : List (Int × Int)) (j : Nat) (h : j < xs.length * 2) : (flat2 xs)[j]? = some (.int .i64 (spotC xs j)) := by simp [flat2, h]
theorem spotC_x (xs : List (Int × Int)) (i : Nat) : spotC xs (i * 2) = (xs.getD i (0, 0)).1 := by
  unfold spotC; rw [if_pos (by omega), show i * 2 / 2 = i from by omega]
theorem spotC_y (xs : List (Int × Int)) (i : Nat) : spotC xs (i * 2 + 1) = (xs.getD i (0, 0)).2 := by
  unfold spotC; rw [if_neg (by omega), show (i * 2 + 1) / 2 = i from by omega]
/-- a slice of spots of the call's own -/
def OwnS (w : World) (base : Nat) (v : Value) (xs : List (Int × Int)) : Prop := w.ownsRow base 93 2 v xs.length (flat2 xs)
theorem OwnS.sl {w : World} {base : Nat} {v : Value} {xs : List (Int × Int)} (h : OwnS w base v xs) : SlS w v xs := by
  rcases Joins.ownsRow_forms h with ⟨rfl, h0⟩ | ⟨g, cap, rfl⟩
  · exact Or.inl ⟨none, 0, rfl, List.length_eq_zero_iff.1 h0⟩
  · by_cases h0 : xs.length = 0
    · have := List.length_eq_zero_iff.1 h0
      subst this
      exact Or.inl ⟨_, _, rfl, rfl⟩
    · refine Or.inr ⟨g, cap, rfl, by omega, (h.lt g rfl).2, fun i hi => ⟨?_, ?_⟩⟩
      · rw [h.cellAt (i * 2) (by omega), flat2_at xs _ (by omega), spotC_x]
      · rw [h.cellAt (i * 2 + 1) (by omega), flat2_at xs _ (by omega), spotC_y]

theorem OwnS.spots {w : World} {base g n cap : Nat} {xs : List (Int × Int)} (h : OwnS w base (.slice (some ⟨g, 0, none⟩) n cap) xs) : Spots w g xs := by
  refine ⟨(h.lt g rfl).2, fun i hi => ⟨?_, ?_⟩⟩
  · rcases Joins.ownsRow_forms h with ⟨h1, _⟩ | ⟨g', cap', h1⟩
    · cases h1
    · cases h1
      rw [h.cellAt (i * 2) (by omega), flat2_at xs _ (by omega), spotC_x]
  · rcases Joins.ownsRow_forms h with ⟨h1, _⟩ | ⟨g', cap', h1⟩
    · cases h1
    · cases h1
      rw [h.cellAt (i * 2 + 1) (by omega), flat2_at xs _ (by omega), spotC_y]

def marksS (k n : Nat) : List (Int × Int) := (List.range n).map fun i => (((k + i * 2 : Nat) : Int), ((k + i * 2 + 1 : Nat) : Int))
theorem marksS_len (k n : Nat) : (marksS k n).length = n := by simp [marksS]
theorem marksS_at (k n i : Nat) (h : i < n) : (marksS k n).getD i (0, 0) = (((k + i * 2 : Nat) : Int), ((k + i * 2 + 1 : Nat) : Int)) := by simp [marksS, h]
/-- the first c cells are marked -/
def partS (xs : List (Int × Int)) (k n c : Nat) : List Value := (List.range (n * 2)).map fun j => if j < c then Value.int .i64 ((k + j : Nat) : Int) else Value.int .i64 (spotC xs j)
theorem partS_zero (xs : List (Int × Int)) (k : Nat) : partS xs k xs.length 0 = flat2 xs := by
  unfold partS flat2
  simp only [Nat.not_lt_zero, if_false]
theorem partS_full (xs : List (Int × Int)) (k n : Nat) : partS xs k n (n * 2) = flat2 (marksS k n) := by
  unfold partS flat2
  rw [marksS_len]
  apply List.map_congr_left
  intro j hj
  simp only [List.mem_range] at hj
  rw [if_pos hj]
  rcases Nat.mod_two_eq_zero_or_one j with h | h
  · have e : j = j / 2 * 2 := by omega
    rw [e, spotC_x, marksS_at _ _ _ (by omega)]
  · have e : j = j / 2 * 2 + 1 := by omega
    rw [e, spotC_y, marksS_at _ _ _ (by omega)]
    rfl
theorem partS_set (xs : List (Int × Int)) (k n c : Nat) : (partS xs k n c).set c (.int .i64 ((k + c : Nat) : Int)) = partS xs k n (c + 1) := by
  unfold partS
  rw [set_map_range]
  apply List.map_congr_left
  intro j hj
  by_cases h1 : j = c
  · subst h1; simp
  · by_cases h2 : j < c
    · simp [h1, h2, show j < c + 1 from by omega]
    · simp [h1, h2, show ¬ j < c + 1 from by omega]
theorem partS_at (xs : List (Int × Int)) (k n c : Nat) (h : c < n * 2) : (partS xs k n c)[c]? = some (.int .i64 (spotC xs c)) := by
  unfold partS
  simp [h]

def MarkedS (w : World) (base : Nat) (v : Value) (k n : Nat) (e : Ending) (w' : World) : Prop := e = .returned (.int .i64 ((k + n * 2 : Nat) : Int)) ∧ OwnS w' base v (marksS k n) ∧ w.grownBy w' v.ownBlock

/-- a slice of spots and a bool handed back -/
def SaysSp (xs : List (Int × Int)) (ok : Bool) (w : World) (e : Ending) (w' : World) : Prop :=
  ∃ ao n cap, e = .returned (.tuple #[.slice ao n cap, .bool ok]) ∧ OwnS w' w.heap.size (.slice ao n cap) xs ∧ Below w.heap.size w w'
end Go.Proofs.YtnmnlbgialolhaaDoor

/- Contracts of single functions, and plain lemmas, on which the exact laws of this seat rest; each holds under the conditions that it states. -/
namespace Go.Proofs.YtnmnlbgialolhaaDoor
set_option linter.unusedVariables false
set_option linter.unusedSimpArgs false
open Go.RowKit

theorem flat2_snoc (xs : List (Int × Int)) (a b : Int) : flat2 (xs ++ [(a, b)]) = flat2 xs ++ [.int .i64 a, .int .i64 b] := by
  have hl : ∀ i, i < xs.length → (xs ++ [(a, b)]).getD i (0, 0) = xs.getD i (0, 0) := fun i hi => by
    rw [List.getD_eq_getElem?_getD, List.getD_eq_getElem?_getD, List.getElem?_append_left hi]
  have hr : (xs ++ [(a, b)]).getD xs.length (0, 0) = (a, b) := by
    rw [List.getD_eq_getElem?_getD, List.getElem?_append_right (Nat.le_refl _), Nat.sub_self]; rfl
  apply List.ext_getElem?
  intro j
  by_cases h1 : j < xs.length * 2
  · rw [flat2_at _ _ (by simp; omega), List.getElem?_append_left (by rw [flat2_len]; exact h1), flat2_at _ _ h1]
    unfold spotC
    rw [hl _ (by omega)]
  · by_cases h2 : j < xs.length * 2 + 2
    · rw [flat2_at _ _ (by simp; omega), List.getElem?_append_right (by rw [flat2_len]; omega), flat2_len]
      by_cases h3 : j = xs.length * 2
      · subst h3
        rw [spotC_x, hr, Nat.sub_self]; rfl
      · obtain rfl : j = xs.length * 2 + 1 := by omega
        rw [spotC_y, hr, show xs.length * 2 + 1 - xs.length * 2 = 1 from by omega]; rfl
    · rw [List.getElem?_eq_none (by rw [flat2_len]; simp; omega), List.getElem?_eq_none (by rw [List.length_append, flat2_len]; simp; omega)]

theorem two_cells_new (w : World) (a b : Value) (t : TypeId) : ∀ j u, [a, b][j]? = some u → (w.alloc (.cells #[a, b] t)).cell? ((⟨w.heap.size, 0, none⟩ : Addr).add j) = some u := fun j u h => by
  rw [Addr.add_mid, Nat.zero_add, Joins.cell_of_block (heap_alloc_last w _) j]
  simpa using h

end Go.Proofs.YtnmnlbgialolhaaDoor

/- Contracts of single functions, and plain lemmas, on which the exact laws of this seat rest; each holds under the conditions that it states. -/
namespace Go.Proofs.YtnmnlbgialolhaaDoor
set_option linter.unusedVariables false
set_option linter.unusedSimpArgs false
open Go.RowKit Go.Shelf
attribute [local go_sem] Oper.semAt_some

/-! ### offsets, in their order -/
abbrev Off := { p : Int × Int // (-4 ≤ p.1 ∧ p.1 ≤ 4) ∧ (-4 ≤ p.2 ∧ p.2 ≤ 4) }
def offAt (i : Nat) : Off := ⟨(((i % 9 : Nat) : Int) - 4, ((i / 9 % 9 : Nat) : Int) - 4), by omega, by omega⟩
def offL (k : Nat) : List Off := (List.range k).map offAt
theorem offL_len (k : Nat) : (offL k).length = k := by simp [offL]
theorem offL_snoc (k : Nat) : offL (k + 1) = offL k ++ [offAt k] := by simp [offL, List.range_succ]
def encO (x : Off) : Array Value := #[.agg #[.int .i64 x.1.1, .int .i64 x.1.2]]
theorem encO_at (y x : Nat) (hy : y < 9) (hx : x < 9) : encO (offAt (y * 9 + x)) = #[.agg #[.int .i64 ((x : Int) - 4), .int .i64 ((y : Int) - 4)]] := by
  have e1 : (y * 9 + x) % 9 = x := by omega
  have e2 : (y * 9 + x) / 9 % 9 = y := by omega
  simp only [encO, offAt, e1, e2]
/-- those that a rule allows -/
def selL (f : Int → Int → Bool) (xs : List Off) : List (Int × Int) := (xs.filter fun p => f p.1.1 p.1.2).map (·.1)
theorem selL_hit (f : Int → Int → Bool) (pre : List Off) {x : Off} (h : f x.1.1 x.1.2 = true) : selL f (pre ++ [x]) = selL f pre ++ [(x.1.1, x.1.2)] := by simp [selL, h]
theorem selL_miss (f : Int → Int → Bool) (pre : List Off) {x : Off} (h : f x.1.1 x.1.2 = false) : selL f (pre ++ [x]) = selL f pre := by simp [selL, h]
theorem selL_len (f : Int → Int → Bool) (xs : List Off) : (selL f xs).length ≤ xs.length := by
  unfold selL
  rw [List.length_map]
  exact List.length_filter_le _ _
/-- the element of a rule -/
def elL (f : Int → Int → Bool) : List (Int × Int) := selL f (offL 81)
theorem elL_len (f : Int → Int → Bool) : (elL f).length ≤ 81 := by
  have := selL_len f (offL 81)
  rwa [offL_len] at this

end Go.Proofs.YtnmnlbgialolhaaDoor

/- Contracts of single functions, and plain lemmas, on which the exact laws of this seat rest; each holds under the conditions that it states. -/
namespace Go.Proofs.YtnmnlbgialolhaaDoor
set_option linter.unusedVariables false
set_option linter.unusedSimpArgs false
open Go.RowKit Go.Shelf
attribute [local go_sem] Oper.semAt_some

/-- a block of two cells that is a variable of the loop's -/
def Two (W : World) (B : Nat) (x : Off) : Prop := W.heap[B]? = some (.cells #[.int .i64 x.1.1, .int .i64 x.1.2] 93 (0, 0))
theorem Two.lt {W : World} {B : Nat} {x : Off} (h : Two W B x) : B < W.heap.size := (Array.getElem?_eq_some_iff.1 h).1
theorem Two.c0 {W : World} {B : Nat} {x : Off} (h : Two W B x) : W.cell? ⟨B, 0, none⟩ = some (.int .i64 x.1.1) := by rw [Joins.cell_of_block h 0]; rfl
theorem Two.c1 {W : World} {B : Nat} {x : Off} (h : Two W B x) : W.cell? ⟨B, 1, none⟩ = some (.int .i64 x.1.2) := by rw [Joins.cell_of_block h 1]; rfl
theorem Two.below {W W' : World} {B : Nat} {x : Off} (h : Two W B x) (hb : Below W.heap.size W W') : Two W' B x := (hb.block B h.lt).trans h
theorem Two.own {β : Type} (B : Nat) (x : Off) : Own (fun (_ : β) W => Two W B x) := fun s X Y row hs hg hrow =>
  (hg.block B hs.lt (fun e' => by obtain ⟨o, ho, hc⟩ := hrow B e'.symm; rw [show X.heap[B]? = _ from hs] at ho; cases ho; cases hc)).trans hs
theorem Boxed.below' {W W' : World} {B : Nat} {t : TypeId} {v : Value} (h : Boxed W B t v) (hb : Below W.heap.size W W') : Boxed W' B t v := (hb.block B h.lt).trans h
theorem keeps_below {W W' : World} (B : Nat) (hb : Below W.heap.size W W') : KeepsFrom B W W' := ⟨hb.size, fun k o _ hk _ => (hb.block k (Array.getElem?_eq_some_iff.1 hk).1).trans hk⟩

/-- an element handed back -/
def SaysEl (xs : List (Int × Int)) (w : World) (e : Ending) (w' : World) : Prop :=
  ∃ ao n cap, e = .returned (.agg #[.slice ao n cap]) ∧ OwnS w' w.heap.size (.slice ao n cap) xs ∧ Below w.heap.size w w'
end Go.Proofs.YtnmnlbgialolhaaDoor
