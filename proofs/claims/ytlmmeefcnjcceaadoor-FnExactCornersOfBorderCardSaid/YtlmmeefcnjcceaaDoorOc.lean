/- Contracts of single functions, and plain lemmas, on which the exact laws of this seat rest; each holds under the conditions that it states. -/
import Derived.Test.YtlmmeefcnjcceaaDoorOb
import Derived.Test.YtlmmeefcnjcceaaDoorMa
import Derived.Deep.RegionHeld3
import Derived.Deep.RegionWith
import Derived.StillTailTactics
namespace Go.Proofs.YtlmmeefcnjcceaaDoor
set_option linter.unusedVariables false
set_option linter.unusedSimpArgs false
open Go.RowKit

theorem isCorner_any (x y : Int) (w : World) : Calls Tryd.prog 61 #[.agg #[.int .i64 x, .int .i64 y]] w (SaysB (cornB x y) w) := by
  go_enter Tryd.func61, Tryd.ntmps61
  go_wp2
  all_goals go_ret
  all_goals exact ⟨ret_bool (by unfold cornB corn; first | exact decide_eq_decide.2 (by omega) | exact (decide_eq_false (by omega)).symm | exact (decide_eq_true (by omega)).symm), Joins.below_alloc1 _ _⟩

theorem plus_any (x y a b : Int) (w : World) (h1 : -100 ≤ x ∧ x ≤ 100) (h2 : -100 ≤ y ∧ y ≤ 100) (h3 : -100 ≤ a ∧ a ≤ 100) (h4 : -100 ≤ b ∧ b ≤ 100) :
    Calls Tryd.prog 77 #[.agg #[.int .i64 x, .int .i64 y], .agg #[.int .i64 a, .int .i64 b]] w fun e w' => e = .returned (.agg #[.int .i64 (x + a), .int .i64 (y + b)]) ∧ Below w.heap.size w w' := by
  go_enter Tryd.func77, Tryd.ntmps77
  go_wp2
  exact bodyPost_ret (v := .agg #[.int .i64 (x + a), .int .i64 (y + b)]) (by simp [results, Tryd.results77, go_sem]) rfl ⟨rfl, Joins.below_alloc3 w _ _ _⟩

/-- the table of moves lies there -/
def Moves (w : World) : Prop := ∀ d : Nat, d < 4 → w.cell? ⟨0, d * 2, none⟩ = some (.int .i64 (dX d)) ∧ w.cell? ⟨0, d * 2 + 1, none⟩ = some (.int .i64 (dY d))
theorem Moves.below {w w' : World} (h : Moves w) (hb : Below w.heap.size w w') : Moves w' := fun d hd => ⟨cell_kept hb (h d hd).1, cell_kept hb (h d hd).2⟩
set_option maxRecDepth 100000 in
theorem end_any (x y : Int) (d : Nat) (w : World) (h1 : -90 ≤ x ∧ x ≤ 90) (h2 : -90 ≤ y ∧ y ≤ 90) (hd : d < 4) (hm : Moves w) :
    Calls Tryd.prog 67 #[.agg #[.int .i64 x, .int .i64 y, .int .i64 d]] w fun e w' => e = .returned (.agg #[.int .i64 (x + dX d), .int .i64 (y + dY d)]) ∧ Below w.heap.size w w' := by
  have c0 := (hm d hd).1
  have c1 := (hm d hd).2
  have k3 := blk_lt c0
  have r0 := dX_range d
  have r1 := dY_range d
  have C := Lib.hid (fun W => plus_any x y (dX d) (dY d) W (by omega) (by omega) (by omega) (by omega))
  have kd : (d : Int) < 4 := by omega
  obtain ⟨a, ha⟩ : ∃ a, dX d = a := ⟨_, rfl⟩
  obtain ⟨b, hb⟩ : ∃ b, dY d = b := ⟨_, rfl⟩
  rw [ha] at c0 C ⊢
  rw [hb] at c1 C ⊢
  clear ha hb r0 r1 hm
  have HB0 : Hid (((w.alloc (.cells #[.int .i64 x, .int .i64 y, .int .i64 d] 67)).alloc (.cells #[.int .i64 0, .int .i64 0] 28)).heap[w.heap.size + 1]? = some (.cells #[.int .i64 0, .int .i64 0] 28 (0, 0))) := by
    have := heap_alloc_last (w.alloc (.cells #[.int .i64 x, .int .i64 y, .int .i64 d] 67)) (.cells #[.int .i64 0, .int .i64 0] 28)
    simp only [World.size_alloc] at this
    exact this
  go_enter Tryd.func67, Tryd.ntmps67
  go_wp2
  go_region_with (go_at_call 77; refine (C.out _).mono ?_; rintro e w1 ⟨rfl, hb⟩; have q := (hb.block (w.heap.size + 1) (by simp)).trans HB0.out; have q0 := (Joins.cell_of_block q 0); have q1 := (Joins.cell_of_block q 1); have qf : ∀ o, w1.frozen? ⟨w.heap.size + 1, o, none⟩ = false := (fun o => by simp [World.frozen?, q]); simp at q0 q1; have HB := Lib.hid hb; clear hb q)
  all_goals go_wp2
  all_goals
    have HBe : Below w.heap.size w w1 := ((Joins.below_alloc2 w (.cells #[.int .i64 x, .int .i64 y, .int .i64 d] 67) (.cells #[.int .i64 0, .int .i64 0] 28)).drew).trans (HB.out.mono (by show w.heap.size ≤ ((w.alloc (.cells #[.int .i64 x, .int .i64 y, .int .i64 d] 67)).alloc (.cells #[.int .i64 0, .int .i64 0] 28)).heap.size; simp; omega))
    have e0 : (w1.setCell ⟨w.heap.size + 1, 0, none⟩ (.int .i64 (x + a))).cell? ⟨w.heap.size + 1, 0, none⟩ = some (.int .i64 (x + a)) := World.cell?_setCell_same _ _ _ q0
    have e1 : ((w1.setCell ⟨w.heap.size + 1, 0, none⟩ (.int .i64 (x + a))).setCell ⟨w.heap.size + 1, 1, none⟩ (.int .i64 (y + b))).cell? ⟨w.heap.size + 1, 1, none⟩ = some (.int .i64 (y + b)) := World.cell?_setCell_same _ _ _ (u := .int .i64 0) (by simp [go_sem, q1])
    exact bodyPost_ret (v := .agg #[.int .i64 (x + a), .int .i64 (y + b)]) (by simp [results, Tryd.results67, go_sem, e0, e1]) rfl ⟨rfl, ((HBe.setCell (p := ⟨w.heap.size + 1, 0, none⟩) (by simp) _).setCell (p := ⟨w.heap.size + 1, 1, none⟩) (by simp) _)⟩
end Go.Proofs.YtlmmeefcnjcceaaDoor
