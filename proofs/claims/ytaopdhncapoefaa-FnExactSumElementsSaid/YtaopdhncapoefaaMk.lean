/- Contracts of single functions, and plain lemmas, on which the exact laws of this seat rest; each holds under the conditions that it states. -/
import Derived.Test.YtaopdhncapoefaaEq
import Derived.Laws.IdiomStrings
namespace Go.Proofs.Ytaopdhncapoefaa
set_option linter.unusedVariables false
open Go.RowKit

theorem digs_step (j : Nat) (h : 0 < j) (l : List UInt8) : digs j ++ l = digs (j / 10) ++ (UInt8.ofNat (48 + j % 10) :: l) := by
  conv => lhs; unfold digs
  rw [dif_neg (by omega)]
  simp

theorem digs_zero : digs 0 = [] := by unfold digs; simp
theorem bpush (c : UInt8) (l : List UInt8) : (⟨#[c]⟩ : ByteArray) ++ ⟨l.toArray⟩ = ⟨(c :: l).toArray⟩ := by
  rw [ByteArray.mk_append_mk]; simp

theorem conv_one (w : World) (j : Nat) : (convert 101 9 (.slice (some ⟨w.heap.size, 0, none⟩) 1 1)).run Try.prog (w.alloc (.cells #[.int .u8 (48 + (j : Int) % 10)] 5)) = .ok (.string ⟨[UInt8.ofNat (48 + j % 10)].toArray⟩) (w.alloc (.cells #[.int .u8 (48 + (j : Int) % 10)] 5)) := by
  have e : ((UInt8.ofNat (48 + j % 10)).toNat : Int) = 48 + (j : Int) % 10 := by
    rw [UInt8.toNat_ofNat_of_lt' (by have := Nat.mod_lt j (show 0 < 10 by omega); show _ < 256; omega)]
    omega
  exact run_convert_bytes_back (P := Try.prog) (w.alloc (.cells #[.int .u8 (48 + (j : Int) % 10)] 5)) 101 9 5 ⟨w.heap.size, 0, none⟩ 1 [UInt8.ofNat (48 + j % 10)] Try.underlying101 Try.underlying5 Try.underlying9
    (fun i hi => by
      obtain rfl : i = 0 := by simpa using hi
      rw [List.getElem_cons_zero, e]
      simp [Addr.add])

end Go.Proofs.Ytaopdhncapoefaa
