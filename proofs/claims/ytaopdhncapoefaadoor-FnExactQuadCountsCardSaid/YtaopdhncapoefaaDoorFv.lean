/- What the frames of laws over corners of pictures share: the table of pixels on the right, and the error of work that is given up, as the row lays them. -/
import Derived.Test.YtaopdhncapoefaaDoorFr
import Derived.Test.YtaopdhncapoefaaDoorFw
import Derived.Test.YtaopdhncapoefaaDoorR3
namespace Go.Proofs.YtaopdhncapoefaaDoor
open Go.ChangeShapes Go.WideShapes Go.ChangeAt Go.RowKit Go.Deep Go.WideElems
open Go.ChangeMaps (open_string shut_string)
set_option linter.unusedVariables false
set_option linter.unusedSimpArgs false
set_option maxRecDepth 100000

theorem gRp : Tryd.prog.globalNamed "loop.example/g01165/impl.rightPixels" = some 0 := by kernel_rfl
theorem tRp : (Tryd.prog.globals[0]?).map (·.type) = some 99 := by kernel_rfl
theorem cellsRp : Tryd.prog.cellsOf 99 = 8 := by kernel_rfl
theorem gNor : Tryd.prog.globalNamed "loop.example/g01165/impl.errNoResult" = some 3 := by kernel_rfl
theorem tNor : (Tryd.prog.globals[3]?).map (·.type) = some 90 := by kernel_rfl
theorem right_of {r : List (String × DataW Unit)} {W : World} (h : laidMet Tryd.prog (("loop.example/g01165/impl.rightPixels", Rows.laid_loop_example_g01165_impl_rightPixels) :: r) W) : RightP W := by
  obtain ⟨ps, ⟨g0, t0, cs0, f0, p0, q0, hg0, ht0, hv0, hd0, _, e0⟩, _, hrows⟩ := h
  obtain rfl := Option.some.inj (gRp.symm.trans hg0)
  obtain rfl := Option.some.inj (tRp.symm.trans ht0)
  obtain ⟨xs, m, _, hx, hl, hlen, hf⟩ := DataW.trod_array Tryd.underlying99 hd0
  rw [cellsRp] at hl
  rw [cellsSpotW] at hf
  have hc := fun i => World.var?_cell gRp hv0 i
  obtain ⟨l⟩ := cs0
  match l, hl with
  | [a0, a1, a2, a3, a4, a5, a6, a7], _ =>
    match xs, hlen with
    | [⟨d0, q0'⟩, ⟨d1, q1'⟩, ⟨d2, q2'⟩, ⟨d3, q3'⟩], _ =>
      unfold Rows.laid_loop_example_g01165_impl_rightPixels at hx
      simp at hx
      obtain ⟨⟨rfl, rfl, rfl, rfl⟩, _⟩ := hx
      have e0 := spot_cells (hf 0 (by omega))
      have e1 := spot_cells (hf 1 (by omega))
      have e2 := spot_cells (hf 2 (by omega))
      have e3 := spot_cells (hf 3 (by omega))
      simp at e0 e1 e2 e3
      obtain ⟨rfl, rfl⟩ := e0
      obtain ⟨rfl, rfl⟩ := e1
      obtain ⟨rfl, rfl⟩ := e2
      obtain ⟨rfl, rfl⟩ := e3
      refine ⟨fun j v hv => ?_, World.block_lt_of_cell? W _ (hc 0)⟩
      rw [Nat.zero_add]
      unfold rpL at hv
      rcases (by have := (List.getElem?_eq_some_iff.1 hv).1; simp at this; omega : j = 0 ∨ j = 1 ∨ j = 2 ∨ j = 3 ∨ j = 4 ∨ j = 5 ∨ j = 6 ∨ j = 7) with rfl | rfl | rfl | rfl | rfl | rfl | rfl | rfl
      all_goals (
        simp at hv
        subst hv
        exact hc _)
end Go.Proofs.YtaopdhncapoefaaDoor
