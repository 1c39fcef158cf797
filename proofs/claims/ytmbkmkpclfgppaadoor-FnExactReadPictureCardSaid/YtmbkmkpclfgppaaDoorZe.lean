/- Contracts of single functions, and plain lemmas, on which the exact laws of this seat rest; each holds under the conditions that it states. -/
import Derived.Test.YtmbkmkpclfgppaaDoorZd
namespace Go.Proofs.YtmbkmkpclfgppaaDoor
set_option linter.unusedVariables false
set_option linter.unusedSimpArgs false
open Go.RowKit Go.Extern.Stop Go.Stop Go.Extern

theorem elemOf_tt (w : World) : (Rtype.elem? 50).run Tryd.prog w = .ok (some 48) w := by kernel_rfl
theorem mk_t (p : Addr) (w : World) : (ReflectliteValue.mk 48 p ReflectliteValue.flagAddr).run Tryd.prog w = .ok (rvV 48 p 406) w := by kernel_rfl
theorem elemV_tt (a p : Addr) (W : World) (ha : W.cell? a = some (.pointer (some p))) :
    (ReflectliteValue.method (ReflectliteValue.valueError "reflectlite.Value.Elem" 0) ReflectliteValue.elem #[rvV 50 a 150]).run Tryd.prog W = .ok (rvV 48 p 406) W := by
  rw [rv_method]
  simp only [Sem.run_bind, parts_tt, Result.andThen]
  simp [ReflectliteValue.elem, loadVar, isAgg, underlying, Tryd.underlying50, ha, Result.andThen, elemOf_tt, mk_t]
theorem parts_to (a : Addr) (w : World) : (ReflectliteValue.parts (rvV 48 a 406)).run Tryd.prog w = .ok (some (48, a, 406)) w := by kernel_rfl
theorem parts_from (a : Addr) (w : World) : (ReflectliteValue.parts (rvV 48 a 150)).run Tryd.prog w = .ok (some (48, a, 150)) w := by kernel_rfl
theorem direct_t (w : World) : (Rtype.directlyAssignable 48 48).run Tryd.prog w = .ok true w := by kernel_rfl
/-- Set: the pointer variable at t gets what the Value's variable at b holds -/
theorem set_t (t b e : Addr) (old : Value) (W : World) (hb : W.cell? b = some (.pointer (some e))) (ht : W.cell? t = some old) (hf : W.frozen? t = false) :
    (ReflectliteValue.set #[rvV 48 t 406, rvV 48 b 150]).run Tryd.prog W = .ok (.tuple #[]) (W.setCell t (.pointer (some e))) := by
  refine (congrArg (fun z : Sem Value => Sem.run Tryd.prog z W) (show ReflectliteValue.set #[rvV 48 t 406, rvV 48 b 150] = bind (m := Sem) (ReflectliteValue.parts (rvV 48 t 406)) _ from rfl)).trans ?_
  have hg : ∀ (h1 : (#[rvV 48 t 406, rvV 48 b 150] : Array Value).size = 2) (h2 : 1 < 2), (#[rvV 48 t 406, rvV 48 b 150] : Array Value).getLit 1 h1 h2 = rvV 48 b 150 := fun _ _ => rfl
  simp only [Sem.run_bind, parts_to, hg, parts_from, Result.andThen]
  simp [ReflectliteValue.flagAddr, loadVar, isAgg, underlying, Tryd.underlying48, hb, Result.andThen, direct_t, storeVar, Value.cells, storeCells, Addr.add]
  rw [run_store Tryd.prog W t _ _ (by rfl)]
  simp [ht, hf]
end Go.Proofs.YtmbkmkpclfgppaaDoor
