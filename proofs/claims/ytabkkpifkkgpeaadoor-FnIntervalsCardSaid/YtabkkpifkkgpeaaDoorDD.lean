/- Contracts of single functions, and plain lemmas, on which the exact laws of this seat rest; each holds under the conditions that it states. -/
import Derived.Test.YtabkkpifkkgpeaaDoorDB
import Derived.Test.YtabkkpifkkgpeaaDoorR1
import Derived.Test.YtabkkpifkkgpeaaDoorRc
import Derived.Test.YtabkkpifkkgpeaaDoorRI
import Derived.BigRegion
namespace Go.Proofs.YtabkkpifkkgpeaaDoor
set_option linter.unusedVariables false
set_option linter.unusedSimpArgs false
open Go.RowKit
attribute [local go_sem] Oper.semAt_some

def ptr0 (b : Nat) : Value := .pointer (some ⟨b, 0, none⟩)
def NrI (W1 : World) (pp pk ps rb : Nat) (v : Value) (M : Array Value) (k : Int) (L : Array Bool) (A : Act) (W : World) : Prop :=
  ∃ (b0 b1 b2 b3 b4 b5 b6 b7 : Bool) (v4 v5 v6 v7 v8 v9 : Value), L = #[b0, b1, b2, b3, b4, b5, b6, b7] ∧
    A = ⟨#[.pointer (some ⟨pp, 0, none⟩), .pointer (some ⟨pk, 0, none⟩), .pointer (some ⟨ps, 0, none⟩), .pointer (some ⟨rb, 0, none⟩), v4, v5, v6, v7, v8, v9, undef, undef, undef, undef, undef, undef, undef, undef, undef, undef, undef], []⟩ ∧
    Below W1.heap.size W1 W ∧ (b0 = true → v6 = .agg #[v]) ∧ (b1 = true → v7 = .agg M) ∧ (b2 = true → v8 = .int .i64 k) ∧ (b3 = true → v9 = .int .i64 k) ∧
    (b4 = true → ∃ mb, v4 = .pointer (some ⟨mb, 0, none⟩) ∧ W1.heap.size ≤ mb ∧ W.heap[mb]? = some (.cells (if b6 then M else zeros) 96 (0, 0))) ∧
    (b5 = true → ∃ kb, v5 = .pointer (some ⟨kb, 0, none⟩) ∧ W1.heap.size ≤ kb ∧ W.heap[kb]? = some (.cells #[.int .i64 (if b7 then k else 0)] 80 (0, 0))) ∧ ((b4 = false → b6 = false) ∧ (b5 = false → b7 = false))

end Go.Proofs.YtabkkpifkkgpeaaDoor
