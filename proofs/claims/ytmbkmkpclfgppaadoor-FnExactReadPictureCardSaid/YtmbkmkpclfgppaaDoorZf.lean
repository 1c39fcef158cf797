/- Contracts of single functions, and plain lemmas, on which the exact laws of this seat rest; each holds under the conditions that it states. -/
import Derived.Test.YtmbkmkpclfgppaaDoorZe
namespace Go.Proofs.YtmbkmkpclfgppaaDoor
set_option linter.unusedVariables false
set_option linter.unusedSimpArgs false
open Go.RowKit Go.Extern.Stop Go.Stop Go.Extern

/-- the world behind a hit of errors.as -/
def hitW (w : World) (t a e : Addr) : World := ((w.alloc (.cells #[.pointer (some ⟨4, 50, none⟩), .pointer (some a), .int .u64 150] 59)).alloc (.cells #[.pointer (some e)] 48)).setCell t (.pointer (some e))
set_option maxRecDepth 100000 in
set_option maxHeartbeats 4000000 in
/-- errors.as at a *strangeRune -/
theorem as2_hit (e t a : Addr) (old : Value) (w : World) (ha : w.cell? a = some (.pointer (some t))) (ht : w.cell? t = some old) (hf : w.frozen? t = false) :
    Calls Tryd.prog 26 #[.iface 48 (.pointer (some e)), .iface 50 (.pointer (some t)), rvV 50 a 150, .iface 79 (tyV 48)] w fun ev w' => ev = .returned (.bool true) ∧ w' = hitW w t a e := by
  have h6 := @run_callFunc_extern Tryd.prog 23 _ (fun args => ReflectliteValue.unpack (args.getD 0 (.tuple #[]))) Tryd.func23 (by kernel_rfl) (by kernel_rfl) (by kernel_rfl) (by kernel_rfl)
  have h10 := @run_callFunc_extern Tryd.prog 31 _ ReflectliteType.typeOf Tryd.func31 (by kernel_rfl) (by kernel_rfl) (by kernel_rfl) (by kernel_rfl)
  have h35 := @run_callFunc_extern Tryd.prog 63 _ (ReflectliteType.relation "AssignableTo" ReflectliteType.assignableTo) Tryd.func63 (by kernel_rfl) (by kernel_rfl) (by kernel_rfl) (by kernel_rfl)
  have h11 := @run_callFunc_extern Tryd.prog 32 _ (ReflectliteValue.method (ReflectliteValue.valueError "reflectlite.Value.Elem" 0) ReflectliteValue.elem) Tryd.func32 (by kernel_rfl) (by kernel_rfl) (by kernel_rfl) (by kernel_rfl)
  have h12 := @run_callFunc_extern Tryd.prog 33 _ ReflectliteValue.set Tryd.func33 (by kernel_rfl) (by kernel_rfl) (by kernel_rfl) (by kernel_rfl)
  have tO := typeOf_t
  have mA := methAssign
  have aE := assign_t
  have f6 := unpack_t
  have hab := World.block_lt_of_cell? w a ha
  have htb := World.block_lt_of_cell? w t ht
  have el := elemV_tt a t (w.alloc (.cells #[.pointer (some ⟨4, 50, none⟩), .pointer (some a), .int .u64 150] 59)) (by rw [World.cell?_alloc_lt _ _ a hab]; exact ha)
  have st := set_t t ⟨w.heap.size + 1, 0, none⟩ e old ((w.alloc (.cells #[.pointer (some ⟨4, 50, none⟩), .pointer (some a), .int .u64 150] 59)).alloc (.cells #[.pointer (some e)] 48))
    (by rw [World.cell?_alloc_at _ _ _ _ (by simp)]; rfl)
    (by rw [World.cell?_alloc_lt _ _ t (by simp; omega), World.cell?_alloc_lt _ _ t htb]; exact ht)
    (by rw [World.frozen?_alloc_old _ _ t (by simp; omega), World.frozen?_alloc_old _ _ t (Nat.ne_of_lt htb)]; exact hf)
  simp only [rvV, tyV] at tO aE f6 el st ⊢
  unfold hitW
  go_enter Tryd.func26, Tryd.ntmps26
  go_wp2
  refine wp_loop_rounds 1 ?_
  rw [rounds_succ]
  go_wp2
  go_ret
  exact ⟨rfl, rfl⟩
end Go.Proofs.YtmbkmkpclfgppaaDoor
