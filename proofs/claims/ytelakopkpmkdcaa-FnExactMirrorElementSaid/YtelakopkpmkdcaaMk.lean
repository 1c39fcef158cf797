/- Contracts of single functions, and plain lemmas, on which the exact laws of this seat rest; each holds under the conditions that it states. -/
import Derived.Test.YtelakopkpmkdcaaEq
import Derived.Laws.IdiomStrings
namespace Go.Proofs.Ytelakopkpmkdcaa
set_option linter.unusedVariables false
open Go.RowKit

theorem digs_step (j : Nat) (h : 0 < j) (l : List UInt8) : digs j ++ l = digs (j / 10) ++ (UInt8.ofNat (48 + j % 10) :: l) := by
  conv => lhs; unfold digs
  rw [dif_neg (by omega)]
  simp

theorem digs_zero : digs 0 = [] := by unfold digs; simp
theorem bpush (c : UInt8) (l : List UInt8) : (⟨#[c]⟩ : ByteArray) ++ ⟨l.toArray⟩ = ⟨(c :: l).toArray⟩ := by
  rw [ByteArray.mk_append_mk]; simp

end Go.Proofs.Ytelakopkpmkdcaa
