/- Contracts of single functions, and plain lemmas, on which the exact laws of this seat rest; each holds under the conditions that it states. -/
import Derived.Test.YtelakopkpmkdcaaA5
import Derived.Test.YtelakopkpmkdcaaQi
import Derived.Test.YtelakopkpmkdcaaBq
namespace Go.Proofs.Ytelakopkpmkdcaa
set_option linter.unusedVariables false
set_option linter.unusedSimpArgs false
open Go.RowKit

theorem sq_same (n : Nat) (h : 1 ≤ n ∧ n ≤ 5) : grL n 0 (fun _ _ => true) (n * n) = elL (sqF n) := by
  obtain ⟨h1, h2⟩ := h
  rcases (by omega : n = 1 ∨ n = 2 ∨ n = 3 ∨ n = 4 ∨ n = 5) with rfl | rfl | rfl | rfl | rfl <;> decide +kernel

set_option maxHeartbeats 1000000 in
theorem spec_Square_yes (n : Nat) (w : World) (h : 1 ≤ n ∧ n ≤ 5) : Calls Try.prog 9 #[.int .i64 n] w (SaysElB (elL (sqF n)) true w) := by
  have h1 := Lib.hid (inB_yes (n := (n : Int)) (a := 1) (b := 5) (by omega) (by omega))
  have C := Lib.hid (fun W => l03Square_any n W h.2)
  rw [sq_same n h] at C
  have hP0 := Lib.hid (heap_alloc_last w (.cells #[.slice none 0 0] 24))
  have HB0 := Lib.hid (Joins.below_alloc1 w (.cells #[.slice none 0 0] 24))
  obtain ⟨E, hE⟩ : ∃ E, elL (sqF n) = E := ⟨_, rfl⟩
  rw [hE] at C ⊢
  clear h hE
  go_enter Try.func9, Try.ntmps9
  go_wp2_with fail
  refine (l00In_any _ _ _ _).mono ?_
  rintro e w' ⟨rfl, rfl⟩
  rw [h1.out]
  go_wp2_with fail
  refine (C.out _).mono ?_
  rintro e w2 ⟨ao, m, cap, rfl, hown, hb⟩
  have hp2 := (hb.block w.heap.size (by simp)).trans hP0.out
  have hfr : w2.frozen? ⟨w.heap.size, 0, none⟩ = false := free_of_one hp2
  have hc2 : w2.cell? ⟨w.heap.size, 0, none⟩ = some (.slice none 0 0) := cell_of_one hp2
  have O2 := Lib.hid (own_set (u := .slice ao m cap) hown hp2 (by decide))
  have P2 := Lib.hid hp2
  have B2 := Lib.hid (HB0.out.trans (hb.mono (by simp)))
  clear hown hp2 hb
  go_wp2_with fail
  refine bodyPost_ret (v := .tuple #[.agg #[.slice ao m cap], .bool true]) (by simp [results, Try.results9, go_sem, cell_of_one (one_setCell P2.out)]) rfl ⟨_, _, _, rfl, Joins.ownsRow_le O2.out (by simp), B2.out.setCell (by simp) _⟩

set_option maxHeartbeats 1000000 in
theorem spec_Square_no (a : Int) (w : World) (h : ¬ (1 ≤ a ∧ a ≤ 5)) : Calls Try.prog 9 #[.int .i64 a] w (SaysElB [] false w) := by
  have h1 := Lib.hid (inB_no (n := a) (a := 1) (b := 5) (by omega))
  have hP0 := Lib.hid (heap_alloc_last w (.cells #[.slice none 0 0] 24))
  clear h
  go_enter Try.func9, Try.ntmps9
  go_wp2_with fail
  refine (l00In_any _ _ _ _).mono ?_
  rintro e w' ⟨rfl, rfl⟩
  rw [h1.out]
  go_wp2_with fail
  refine bodyPost_ret (v := .tuple #[.agg #[.slice none 0 0], .bool false]) (by simp [results, Try.results9, go_sem, cell_of_one hP0.out]) rfl ⟨_, _, _, rfl, World.ownsRow_nil _ _ _ _, Joins.below_alloc1 w _⟩
end Go.Proofs.Ytelakopkpmkdcaa
