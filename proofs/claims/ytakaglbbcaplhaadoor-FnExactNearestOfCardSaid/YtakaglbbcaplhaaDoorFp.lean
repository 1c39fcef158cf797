/- A spot among the arguments, opened. -/
import Derived.Test.YtakaglbbcaplhaaDoorFr
import Derived.Lib.SmallJoins
namespace Go.Proofs.YtakaglbbcaplhaaDoor
open Go.ChangeShapes Go.WideShapes Go.ChangeAt Go.RowKit Go.Deep Go.WideElems
set_option linter.unusedVariables false

set_option maxRecDepth 100000 in
theorem open_spot {H : Type} {enc : TypeId × Value → H} {W : World} {v0 : Value} {d : DataW H} {p : List MemPlace} {b0 : Nat} {r : Reach} (hv : Value.okWide Tryd.prog W r b0 26 v0)
    (h : DataW.Trod enc Tryd.prog W 0 (fun _ => true) true 26 v0 d p) : ∃ x y : Int, v0 = .agg #[.int .i64 x, .int .i64 y] := by
  obtain ⟨a0, a1, y0, y1, n, rfl, _, _, t0, t1⟩ := Joins.open_agg2 Tryd.underlying26 (by kernel_rfl) (by kernel_rfl) hv h
  obtain ⟨n0, e0, _, _⟩ := DataW.trod_int Tryd.underlying2 t0
  obtain ⟨n1, e1, _, _⟩ := DataW.trod_int Tryd.underlying2 t1
  simp only [List.cons.injEq, and_true] at e0 e1
  exact ⟨n0, n1, by rw [e0, e1]⟩
end Go.Proofs.YtakaglbbcaplhaaDoor
