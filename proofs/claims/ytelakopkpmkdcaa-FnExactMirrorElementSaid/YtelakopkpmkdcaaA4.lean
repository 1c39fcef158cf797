/- Contracts of single functions, and plain lemmas, on which the exact laws of this seat rest; each holds under the conditions that it states. -/
import Derived.Test.YtelakopkpmkdcaaA3
import Derived.Test.YtelakopkpmkdcaaBk
namespace Go.Proofs.Ytelakopkpmkdcaa
set_option linter.unusedVariables false
set_option linter.unusedSimpArgs false
open Go.RowKit

/-- an element and a bool handed back -/
def SaysElB (xs : List (Int × Int)) (ok : Bool) (w : World) (e : Ending) (w' : World) : Prop :=
  ∃ ao n cap, e = .returned (.tuple #[.agg #[.slice ao n cap], .bool ok]) ∧ OwnS w' w.heap.size (.slice ao n cap) xs ∧ Below w.heap.size w w'

/-- the rule of a square -/
def sqF (size x y : Int) : Bool := decide (0 ≤ min x y) && decide (max x y < size)

set_option maxHeartbeats 1000000 in
theorem square1_any (x y size : Int) (q : Nat) (w : World) (hq : w.cell? ⟨q, 0, none⟩ = some (.int .i64 size)) :
    Calls Try.prog 29 #[.agg #[.int .i64 x, .int .i64 y], .pointer (some ⟨q, 0, none⟩)] w (SaysB (sqF size x y) w) := by
  have hl := blk_lt hq
  go_enter Try.func29, Try.ntmps29
  go_wp2
  all_goals go_ret
  all_goals exact ⟨ret_bool (by unfold sqF; rw [Bool.eq_iff_iff, Bool.and_eq_true]; simp only [decide_eq_true_eq, true_iff, false_iff, Bool.false_eq_true]; omega), Joins.below_alloc1 _ _⟩

set_option maxHeartbeats 1000000 in
theorem impl_Square_yes (size : Int) (w : World) (h : 1 ≤ size ∧ size ≤ 5) : Calls Try.prog 10 #[.int .i64 size] w (SaysElB (elL (sqF size)) true w) := by
  have hq : Hid (((w.alloc (.cells #[.int .i64 size] 2)).alloc (.cells #[.slice none 0 0] 24)).cell? ⟨w.heap.size, 0, none⟩ = some (.int .i64 size)) := cell_kept (Joins.below_alloc1 _ _) (cell_of_one (heap_alloc_last w _))
  have hR0 := heap_alloc_last (w.alloc (.cells #[.int .i64 size] 2)) (.cells #[.slice none 0 0] 24)
  rw [World.size_alloc] at hR0
  have HB0 := Lib.hid (Joins.below_alloc2 w (.cells #[.int .i64 size] 2) (.cells #[.slice none 0 0] 24))
  have C := Lib.hid (elementOf_Square w.heap.size (sqF size) ((w.alloc (.cells #[.int .i64 size] 2)).alloc (.cells #[.slice none 0 0] 24)) (fun x W hb => square1_any _ _ size _ W (cell_kept hb hq.out)))
  have HR0 := Lib.hid hR0
  clear hR0
  have h1 := h.1
  have h2 := h.2
  have hs0 : ((w.alloc (.cells #[.int .i64 size] 2)).alloc (.cells #[.slice none 0 0] 24)).heap.size = w.heap.size + 1 + 1 := by simp
  go_enter Try.func10, Try.ntmps10
  go_wp2_with fail
  refine C.out.mono ?_
  rintro e w2 ⟨ao, n, cap, rfl, hown, hb⟩
  have hp2 := (hb.block (w.heap.size + 1) (by rw [hs0]; omega)).trans HR0.out
  have hfr : w2.frozen? ⟨w.heap.size + 1, 0, none⟩ = false := free_of_one hp2
  have hc2 : w2.cell? ⟨w.heap.size + 1, 0, none⟩ = some (.slice none 0 0) := cell_of_one hp2
  have O2 := Lib.hid (own_set (u := .slice ao n cap) hown hp2 (by decide))
  have P2 := Lib.hid hp2
  have B2 := Lib.hid (HB0.out.trans (hb.mono (by rw [hs0]; omega)))
  clear hown hp2 hb
  go_wp2_with fail
  refine bodyPost_ret (v := .tuple #[.agg #[.slice ao n cap], .bool true]) (by simp [results, Try.results10, go_sem, cell_of_one (one_setCell P2.out)]) rfl ⟨_, _, _, rfl, Joins.ownsRow_le O2.out (by rw [hs0]; omega), B2.out.setCell (by simp) _⟩

set_option maxHeartbeats 1000000 in
theorem impl_Square_no (size : Int) (w : World) (h : ¬ (1 ≤ size ∧ size ≤ 5)) : Calls Try.prog 10 #[.int .i64 size] w (SaysElB [] false w) := by
  have hR0 := heap_alloc_last (w.alloc (.cells #[.int .i64 size] 2)) (.cells #[.slice none 0 0] 24)
  rw [World.size_alloc] at hR0
  have HR0 := Lib.hid hR0
  have HB0 := Lib.hid (Joins.below_alloc2 w (.cells #[.int .i64 size] 2) (.cells #[.slice none 0 0] 24))
  clear hR0
  by_cases h1 : size < 1
  · clear h
    go_enter Try.func10, Try.ntmps10
    go_wp2_with fail
    refine bodyPost_ret (v := .tuple #[.agg #[.slice none 0 0], .bool false]) (by simp [results, Try.results10, go_sem, cell_of_one HR0.out]) rfl ⟨_, _, _, rfl, World.ownsRow_nil _ _ _ _, HB0.out⟩
  · have h2 : 5 < size := by omega
    clear h
    go_enter Try.func10, Try.ntmps10
    go_wp2_with fail
    refine bodyPost_ret (v := .tuple #[.agg #[.slice none 0 0], .bool false]) (by simp [results, Try.results10, go_sem, cell_of_one HR0.out]) rfl ⟨_, _, _, rfl, World.ownsRow_nil _ _ _ _, HB0.out⟩
end Go.Proofs.Ytelakopkpmkdcaa
