/- Contracts of single functions, and plain lemmas, on which the exact laws of this seat rest; each holds under the conditions that it states. -/
import Derived.Test.YthoffbibaimjlaaDoorMw
import Derived.Test.YthoffbibaimjlaaDoorBl
import Derived.Lib.BufferKept
import Derived.Lib.BufferOld
namespace Go.Proofs.YthoffbibaimjlaaDoor
set_option linter.unusedVariables false
open Go.RowKit

/-! ### a row of a matrix as text: the shelf's buffer -/
theorem byteCells_snoc (l : List UInt8) (c : UInt8) : Lib.byteCells (l ++ [c]) = Lib.byteCells l ++ [.int .u8 c.toNat] := by simp [Lib.byteCells]

theorem text_step {w wr w2 : World} {n k : Nat} {C : Array Value} {t : TypeId} (hC : wr.heap[n]? = some (.cells C t (0, 0))) (hn : n < k) (h : Below n w wr) (h2 : Below k wr w2) : w2.heap[n]? = some (.cells C t (0, 0)) ∧ Below n w w2 :=
  ⟨(h2.block n hn).trans hC, h.trans (h2.mono (by omega))⟩

end Go.Proofs.YthoffbibaimjlaaDoor
