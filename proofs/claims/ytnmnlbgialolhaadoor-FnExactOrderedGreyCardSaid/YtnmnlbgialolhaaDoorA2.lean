/- Contracts of single functions, and plain lemmas, on which the exact laws of this seat rest; each holds under the conditions that it states. -/
import Derived.Test.YtnmnlbgialolhaaDoorQb
import Derived.RangeFuncNested
import Derived.RangeFuncBound
import Derived.RangeFuncCalls
import Derived.RangeFuncLeaves
import Derived.RangeFuncBox
import Derived.Shelf.Abstract
import Derived.Shelf.RegionOpen
import Derived.WalkKit
import Derived.OwnWalkIn
import Derived.TacticsInMore
import Derived.LoopNIn
import Derived.LoopIn
import Derived.Maps.AppendAt
namespace Go.Proofs.YtnmnlbgialolhaaDoor
set_option linter.unusedVariables false
set_option linter.unusedSimpArgs false
open Go.RowKit

theorem flat2_snoc (xs : List (Int × Int)) (a b : Int) : flat2 (xs ++ [(a, b)]) = flat2 xs ++ [.int .i64 a, .int .i64 b] := by
  have hl : ∀ i, i < xs.length → (xs ++ [(a, b)]).getD i (0, 0) = xs.getD i (0, 0) := fun i hi => by
    rw [List.getD_eq_getElem?_getD, List.getD_eq_getElem?_getD, List.getElem?_append_left hi]
  have hr : (xs ++ [(a, b)]).getD xs.length (0, 0) = (a, b) := by
    rw [List.getD_eq_getElem?_getD, List.getElem?_append_right (Nat.le_refl _), Nat.sub_self]; rfl
  apply List.ext_getElem?
  intro j
  by_cases h1 : j < xs.length * 2
  · rw [flat2_at _ _ (by simp; omega), List.getElem?_append_left (by rw [flat2_len]; exact h1), flat2_at _ _ h1]
    unfold spotC
    rw [hl _ (by omega)]
  · by_cases h2 : j < xs.length * 2 + 2
    · rw [flat2_at _ _ (by simp; omega), List.getElem?_append_right (by rw [flat2_len]; omega), flat2_len]
      by_cases h3 : j = xs.length * 2
      · subst h3
        rw [spotC_x, hr, Nat.sub_self]; rfl
      · obtain rfl : j = xs.length * 2 + 1 := by omega
        rw [spotC_y, hr, show xs.length * 2 + 1 - xs.length * 2 = 1 from by omega]; rfl
    · rw [List.getElem?_eq_none (by rw [flat2_len]; simp; omega), List.getElem?_eq_none (by rw [List.length_append, flat2_len]; simp; omega)]

theorem two_cells_new (w : World) (a b : Value) (t : TypeId) : ∀ j u, [a, b][j]? = some u → (w.alloc (.cells #[a, b] t)).cell? ((⟨w.heap.size, 0, none⟩ : Addr).add j) = some u := fun j u h => by
  rw [Addr.add_mid, Nat.zero_add, Joins.cell_of_block (heap_alloc_last w _) j]
  simpa using h

end Go.Proofs.YtnmnlbgialolhaaDoor

/- Contracts of single functions, and plain lemmas, on which the exact laws of this seat rest; each holds under the conditions that it states. -/
namespace Go.Proofs.YtnmnlbgialolhaaDoor
set_option linter.unusedVariables false
set_option linter.unusedSimpArgs false
open Go.RowKit Go.Shelf
attribute [local go_sem] Oper.semAt_some

/-! ### offsets, in their order -/
abbrev Off := { p : Int × Int // (-4 ≤ p.1 ∧ p.1 ≤ 4) ∧ (-4 ≤ p.2 ∧ p.2 ≤ 4) }
def offAt (i : Nat) : Off := ⟨(((i % 9 : Nat) : Int) - 4, ((i / 9 % 9 : Nat) : Int) - 4), by omega, by omega⟩
def offL (k : Nat) : List Off := (List.range k).map offAt
theorem offL_len (k : Nat) : (offL k).length = k := by simp [offL]
theorem offL_snoc (k : Nat) : offL (k + 1) = offL k ++ [offAt k] := by simp [offL, List.range_succ]
def encO (x : Off) : Array Value := #[.agg #[.int .i64 x.1.1, .int .i64 x.1.2]]
theorem encO_at (y x : Nat) (hy : y < 9) (hx : x < 9) : encO (offAt (y * 9 + x)) = #[.agg #[.int .i64 ((x : Int) - 4), .int .i64 ((y : Int) - 4)]] := by
  have e1 : (y * 9 + x) % 9 = x := by omega
  have e2 : (y * 9 + x) / 9 % 9 = y := by omega
  simp only [encO, offAt, e1, e2]
/-- those that a rule allows -/
def selL (f : Int → Int → Bool) (xs : List Off) : List (Int × Int) := (xs.filter fun p => f p.1.1 p.1.2).map (·.1)
theorem selL_hit (f : Int → Int → Bool) (pre : List Off) {x : Off} (h : f x.1.1 x.1.2 = true) : selL f (pre ++ [x]) = selL f pre ++ [(x.1.1, x.1.2)] := by simp [selL, h]
theorem selL_miss (f : Int → Int → Bool) (pre : List Off) {x : Off} (h : f x.1.1 x.1.2 = false) : selL f (pre ++ [x]) = selL f pre := by simp [selL, h]
theorem selL_len (f : Int → Int → Bool) (xs : List Off) : (selL f xs).length ≤ xs.length := by
  unfold selL
  rw [List.length_map]
  exact List.length_filter_le _ _
/-- the element of a rule -/
def elL (f : Int → Int → Bool) : List (Int × Int) := selL f (offL 81)
theorem elL_len (f : Int → Int → Bool) : (elL f).length ≤ 81 := by
  have := selL_len f (offL 81)
  rwa [offL_len] at this

end Go.Proofs.YtnmnlbgialolhaaDoor

/- Contracts of single functions, and plain lemmas, on which the exact laws of this seat rest; each holds under the conditions that it states. -/
namespace Go.Proofs.YtnmnlbgialolhaaDoor
set_option linter.unusedVariables false
set_option linter.unusedSimpArgs false
open Go.RowKit Go.Shelf
attribute [local go_sem] Oper.semAt_some

/-- a block of two cells that is a variable of the loop's -/
def Two (W : World) (B : Nat) (x : Off) : Prop := W.heap[B]? = some (.cells #[.int .i64 x.1.1, .int .i64 x.1.2] 93 (0, 0))
theorem Two.lt {W : World} {B : Nat} {x : Off} (h : Two W B x) : B < W.heap.size := (Array.getElem?_eq_some_iff.1 h).1
theorem Two.c0 {W : World} {B : Nat} {x : Off} (h : Two W B x) : W.cell? ⟨B, 0, none⟩ = some (.int .i64 x.1.1) := by rw [Joins.cell_of_block h 0]; rfl
theorem Two.c1 {W : World} {B : Nat} {x : Off} (h : Two W B x) : W.cell? ⟨B, 1, none⟩ = some (.int .i64 x.1.2) := by rw [Joins.cell_of_block h 1]; rfl
theorem Two.below {W W' : World} {B : Nat} {x : Off} (h : Two W B x) (hb : Below W.heap.size W W') : Two W' B x := (hb.block B h.lt).trans h
theorem Two.own {β : Type} (B : Nat) (x : Off) : Own (fun (_ : β) W => Two W B x) := fun s X Y row hs hg hrow =>
  (hg.block B hs.lt (fun e' => by obtain ⟨o, ho, hc⟩ := hrow B e'.symm; rw [show X.heap[B]? = _ from hs] at ho; cases ho; cases hc)).trans hs
theorem Boxed.below' {W W' : World} {B : Nat} {t : TypeId} {v : Value} (h : Boxed W B t v) (hb : Below W.heap.size W W') : Boxed W' B t v := (hb.block B h.lt).trans h
theorem keeps_below {W W' : World} (B : Nat) (hb : Below W.heap.size W W') : KeepsFrom B W W' := ⟨hb.size, fun k o _ hk _ => (hb.block k (Array.getElem?_eq_some_iff.1 hk).1).trans hk⟩

/-- an element handed back -/
def SaysEl (xs : List (Int × Int)) (w : World) (e : Ending) (w' : World) : Prop :=
  ∃ ao n cap, e = .returned (.agg #[.slice ao n cap]) ∧ OwnS w' w.heap.size (.slice ao n cap) xs ∧ Below w.heap.size w w'
end Go.Proofs.YtnmnlbgialolhaaDoor
