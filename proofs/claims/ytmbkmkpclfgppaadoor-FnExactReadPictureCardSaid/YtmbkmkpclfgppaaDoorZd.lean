/- Contracts of single functions, and plain lemmas, on which the exact laws of this seat rest; each holds under the conditions that it states. -/
import Derived.Test.YtmbkmkpclfgppaaDoorWd
import Derived.LaidEql
import Derived.Stop.Asserts
import Derived.RowKitTokens
namespace Go.Proofs.YtmbkmkpclfgppaaDoor
set_option linter.unusedVariables false
set_option linter.unusedSimpArgs false
open Go.RowKit Go.Extern.Stop Go.Stop Go.Extern

/-! ### errors.As at a target of type **strangeRune -/
theorem as_nil (t : Value) (w : World) : Calls Tryd.prog 19 #[.nilIface, t] w fun e w' => e = .returned (.bool false) ∧ w' = w := by
  go_enter Tryd.func19, Tryd.ntmps19
  go_wp2
  go_ret
  exact ⟨rfl, rfl⟩

/-- a type, as reflectlite hands it on -/
def tyV (t : Nat) : Value := .agg #[.pointer (some ⟨4, t, none⟩)]
/-- a Value of reflectlite's: its type, where what it holds lies, its flags -/
def rvV (t : Nat) (a : Addr) (fl : Int) : Value := .agg #[.pointer (some ⟨4, t, none⟩), .pointer (some a), .int .u64 fl]
theorem unpack_tt (t : Addr) (w : World) : (ReflectliteValue.unpack (.iface 50 (.pointer (some t)))).run Tryd.prog w
    = .ok (rvV 50 ⟨w.heap.size, 0, none⟩ 150) (w.alloc (.cells #[.pointer (some t)] 50)) := by kernel_rfl
theorem unpack_t (t : Addr) (w : World) : (ReflectliteValue.unpack (.iface 48 (.pointer (some t)))).run Tryd.prog w
    = .ok (rvV 48 ⟨w.heap.size, 0, none⟩ 150) (w.alloc (.cells #[.pointer (some t)] 48)) := by kernel_rfl
theorem type_tt (a : Addr) (w : World) : (ReflectliteValue.methodAny (ReflectliteValue.valueError "reflectlite.Value.Type" 0) (fun t _ _ _ => ReflectliteType.toType t) #[rvV 50 a 150]).run Tryd.prog w
    = .ok (.iface 79 (tyV 50)) w := by kernel_rfl
theorem methKind (h : Value) (w : World) : (Go.method 229 79 (.agg #[h]) "Kind").run Tryd.prog w = .ok (55, h) w := by kernel_rfl
theorem methElem (h : Value) (w : World) : (Go.method 229 79 (.agg #[h]) "Elem").run Tryd.prog w = .ok (65, .agg #[h]) w := by kernel_rfl
theorem methImpl (h : Value) (w : World) : (Go.method 229 79 (.agg #[h]) "Implements").run Tryd.prog w = .ok (66, .agg #[h]) w := by kernel_rfl
theorem methAssign (h : Value) (w : World) : (Go.method 229 79 (.agg #[h]) "AssignableTo").run Tryd.prog w = .ok (63, .agg #[h]) w := by kernel_rfl
theorem kind_tt (w : World) : ((ReflectliteType.abiMethod fun t => (fun a : Nat => Value.int IntKind.u8 (a : Int)) <$> Rtype.kind t) #[.pointer (some ⟨4, 50, none⟩)]).run Tryd.prog w = .ok (.int .u8 22) w := by kernel_rfl
theorem kind_t (w : World) : ((ReflectliteType.abiMethod fun t => (fun a : Nat => Value.int IntKind.u8 (a : Int)) <$> Rtype.kind t) #[.pointer (some ⟨4, 48, none⟩)]).run Tryd.prog w = .ok (.int .u8 22) w := by kernel_rfl
theorem elem_tt (w : World) : ((ReflectliteType.method ReflectliteType.elem) #[tyV 50]).run Tryd.prog w = .ok (.iface 79 (tyV 48)) w := by kernel_rfl
theorem impl_t (w : World) : (ReflectliteType.relation "Implements" ReflectliteType.implements_ #[tyV 48, .iface 79 (tyV 31)]).run Tryd.prog w = .ok (.bool true) w := by kernel_rfl
theorem typeOf_t (v : Value) (w : World) : (ReflectliteType.typeOf #[.iface 48 v]).run Tryd.prog w = .ok (.iface 79 (tyV 48)) w := by kernel_rfl
theorem typeOf_es (v : Value) (w : World) : (ReflectliteType.typeOf #[.iface 98 v]).run Tryd.prog w = .ok (.iface 79 (tyV 98)) w := by kernel_rfl
theorem assign_t (w : World) : (ReflectliteType.relation "AssignableTo" ReflectliteType.assignableTo #[tyV 48, .iface 79 (tyV 48)]).run Tryd.prog w = .ok (.bool true) w := by kernel_rfl
theorem assign_es (w : World) : (ReflectliteType.relation "AssignableTo" ReflectliteType.assignableTo #[tyV 98, .iface 79 (tyV 48)]).run Tryd.prog w = .ok (.bool false) w := by kernel_rfl
theorem rv_method (z : Sem Value) (f : TypeId → Addr → Nat → Nat → Sem Value) (v : Value) : ReflectliteValue.method z f #[v] = (do match ← ReflectliteValue.parts v with | none => z | some (t, a, fl) => f t a fl (fl % 32)) := rfl
theorem parts_tt (a : Addr) (w : World) : (ReflectliteValue.parts (rvV 50 a 150)).run Tryd.prog w = .ok (some (50, a, 150)) w := by kernel_rfl
theorem isNil_tt (a p : Addr) (W : World) (ha : W.cell? a = some (.pointer (some p))) :
    (ReflectliteValue.method (ReflectliteValue.valueError "reflectlite.Value.IsNil" 0) ReflectliteValue.isNil #[rvV 50 a 150]).run Tryd.prog W = .ok (.bool false) W := by
  rw [rv_method]
  simp only [Sem.run_bind, parts_tt, Result.andThen]
  simp [ReflectliteValue.isNil, loadVar, isAgg, underlying, Tryd.underlying50, ha, Result.andThen]

theorem no_As : ∀ (v : Value) (xT : TypeId) (w : World), (Instr.typeAssert (.iface 98 v) xT 84 true).run Tryd.prog w = .ok (.tuple #[.nilIface, .bool false]) w := run_typeAssert_lacksB Tryd.underlying84 (by kernel_rfl) (by kernel_rfl)
theorem no_Unwrap : ∀ (v : Value) (xT : TypeId) (w : World), (Instr.typeAssert (.iface 98 v) xT 87 true).run Tryd.prog w = .ok (.tuple #[.nilIface, .bool false]) w := run_typeAssert_lacksB Tryd.underlying87 (by kernel_rfl) (by kernel_rfl)
theorem no_Unwraps : ∀ (v : Value) (xT : TypeId) (w : World), (Instr.typeAssert (.iface 98 v) xT 89 true).run Tryd.prog w = .ok (.tuple #[.nilIface, .bool false]) w := run_typeAssert_lacksB Tryd.underlying89 (by kernel_rfl) (by kernel_rfl)

set_option maxRecDepth 100000 in
set_option maxHeartbeats 4000000 in
/-- errors.as at an error of another type, which has neither As nor Unwrap -/
theorem as2_miss (e : Value) (t a : Addr) (w : World) :
    Calls Tryd.prog 26 #[.iface 98 e, .iface 50 (.pointer (some t)), rvV 50 a 150, .iface 79 (tyV 48)] w fun ev w' => ev = .returned (.bool false) ∧ Below w.heap.size w w' := by
  have h10 := @run_callFunc_extern Tryd.prog 31 _ ReflectliteType.typeOf Tryd.func31 (by kernel_rfl) (by kernel_rfl) (by kernel_rfl) (by kernel_rfl)
  have h35 := @run_callFunc_extern Tryd.prog 63 _ (ReflectliteType.relation "AssignableTo" ReflectliteType.assignableTo) Tryd.func63 (by kernel_rfl) (by kernel_rfl) (by kernel_rfl) (by kernel_rfl)
  have tO := typeOf_es
  have mA := methAssign
  have aE := assign_es
  have nA := no_As e
  have nU := no_Unwrap e
  have nUs := no_Unwraps e
  simp only [rvV, tyV] at tO aE ⊢
  go_enter Tryd.func26, Tryd.ntmps26
  go_wp2
  refine wp_loop_rounds 1 ?_
  rw [rounds_succ]
  go_wp2
  go_ret
  exact ⟨rfl, Joins.below_alloc1 _ _⟩
end Go.Proofs.YtmbkmkpclfgppaaDoor
