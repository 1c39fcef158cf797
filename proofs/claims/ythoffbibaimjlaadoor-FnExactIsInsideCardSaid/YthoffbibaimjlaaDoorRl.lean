/- Contracts of single functions, and plain lemmas, on which the exact laws of this seat rest; each holds under the conditions that it states. -/
import Derived.Test.YthoffbibaimjlaaDoorPb
import Derived.Deep.MidRow
namespace Go.Proofs.YthoffbibaimjlaaDoor
set_option linter.unusedVariables false
open Go.RowKit

theorem words_lt_pow {ss : List ByteArray} (V : VP ss) (j : Nat) : wordsOf ss j < 2 ^ (row0 ss).size := by
  unfold wordsOf
  split
  · rename_i h
    unfold rowWord
    rw [(V.rows j h).1]
    exact wordF_lt _ _
  · exact Nat.pow_pos (by omega)

theorem words_small {ss : List ByteArray} (V : VP ss) (j : Nat) : wordsOf ss j < 65536 := by
  have h1 := words_lt_pow V j
  have h2 : 2 ^ (row0 ss).size ≤ 2 ^ 16 := Nat.pow_le_pow_right (by omega) V.w16
  omega

/-- the words of a matrix as an array -/
def rowsL (g : Nat → Nat) : List Value := (List.range 16).map fun j => Value.int .u32 (g j)
theorem rowsL_len (g : Nat → Nat) : (rowsL g).length = 16 := by simp [rowsL]
theorem rowsL_at (g : Nat → Nat) (j : Nat) (h : j < 16) : (rowsL g).toArray[j]? = some (.int .u32 (g j)) := by simp [rowsL, h]
theorem rowsL_range {W : World} {t a b : Nat} {g : Nat → Nat} (h : W.heap[t]? = some (.cells (mat a b g) 44 (0, 0))) : W.rangeAt t 2 (rowsL g) := fun j v hv => by
  have hj : j < 16 := by
    have := (List.getElem?_eq_some_iff.1 hv).1
    rwa [rowsL_len] at this
  rw [Joins.cell_of_block h (2 + j)]
  have h1 := mcells_word a b (fun j => ((g j : Nat) : Int)) j hj
  have h2 : (rowsL g)[j]? = some (.int .u32 (g j)) := by simp [rowsL, hj]
  rw [h2] at hv
  obtain rfl := Option.some.inj hv
  exact h1
theorem infoRows : (Tryd.prog.info? 42).map (·.size) = some 16 := by kernel_rfl

theorem run_index_rows (cs : Array Value) (i : Nat) (v : Value) (w : World) (hi : i < 16) (hv : cs[i]? = some v) : (Instr.index 42 (.agg cs) (.int .i64 i)).run Tryd.prog w = .ok v w := by
  have h : Tryd.prog.underlying 42 = some (.array 16 41) := Tryd.underlying42
  have h1 : ∀ w, (sizeOf 41).run Tryd.prog w = .ok 1 w := fun _ => by kernel_rfl
  have h2 : ∀ w, (isAgg 41).run Tryd.prog w = .ok false w := fun _ => by kernel_rfl
  have hn : (0 : Int) ≤ (i : Int) ∧ (i : Int) < ((16 : Nat) : Int) := by omega
  simp [Instr.index, run_underlying h, asIntOf, hn, go_sem, hv, h1, h2, hi]
end Go.Proofs.YthoffbibaimjlaaDoor
