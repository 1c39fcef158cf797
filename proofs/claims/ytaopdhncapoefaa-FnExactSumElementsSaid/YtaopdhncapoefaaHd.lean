/- Contracts of single functions, and plain lemmas, on which the exact laws of this seat rest; each holds under the conditions that it states. -/
import Derived.Test.YtaopdhncapoefaaMs
namespace Go.Proofs.Ytaopdhncapoefaa
set_option linter.unusedVariables false
open Go.RowKit

/-- the held count -/
def Held (k n : Nat) (w : World) (e : Ending) (w' : World) : Prop := e = .returned (.int .i64 ((k + n : Nat) : Int)) ∧ Below w.heap.size w w'

theorem cell_kept {w w1 : World} {b o : Nat} {v : Value} (hb : Below w.heap.size w w1) (h : w.cell? ⟨b, o, none⟩ = some v) : w1.cell? ⟨b, o, none⟩ = some v := (hb.cell (p := ⟨b, o, none⟩) (blk_lt h)).trans h

end Go.Proofs.Ytaopdhncapoefaa
