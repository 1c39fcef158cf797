/- What frames share: the number of variables, the two cells of a spot. -/
import Derived.Test.YtnmnlbgialolhaaDoorRows
import Derived.Test.YtnmnlbgialolhaaDoorWd
import Derived.Test.YtnmnlbgialolhaaDoorRc
import Derived.ProofKit
import Derived.OpenShut
import Derived.ShutString
import Derived.ChangeOld
import Derived.LaidMore
import Derived.LaidLaws
import Derived.LaidHandle
import Derived.Stop.LaidErr
import Derived.WalkSmall
import Derived.Stop.Joined
import Derived.ChangeVars
import Derived.SliceStrings
import Derived.Deep.Slices
import Derived.OpenVars
import Derived.Test.YtnmnlbgialolhaaDoorFr
import Derived.Test.YtnmnlbgialolhaaDoorR3
import Derived.Test.YtnmnlbgialolhaaDoorOGb
import Derived.Lib.LaidTab
namespace Go.Proofs.YtnmnlbgialolhaaDoor
open Go.ChangeShapes Go.WideShapes Go.ChangeAt Go.RowKit Go.Deep Go.WideElems
open Go.ChangeMaps (open_string shut_string)
set_option linter.unusedVariables false
set_option linter.unusedSimpArgs false
set_option maxRecDepth 100000

theorem vars_len {H : Type} {enc : TypeId × Value → H} {P : Program} {W : World} {sp : Nat → Bool} : ∀ {ns : List String} {gs : List (DataW H)} {q : List MemPlace}, DataW.TrodVars enc P W sp ns gs q → gs.length = ns.length
  | [], [], _, _ => rfl
  | [], _ :: _, _, h => h.elim
  | _ :: _, [], _, h => h.elim
  | _ :: _, _ :: _, _, ⟨_, _, _, _, _, _, _, _, _, _, hs, _⟩ => congrArg (· + 1) (vars_len hs)
theorem cellsI64W : Tryd.prog.cellsOf 2 = 1 := by kernel_rfl
theorem cellsSpotW : Tryd.prog.cellsOf 93 = 2 := by kernel_rfl
section
variable {H : Type} {enc : TypeId × Value → H} {W : World} {base : Nat} {spare : Nat → Bool} {held : Bool}
set_option maxRecDepth 100000 in
/-- the two cells of a spot that reads as two numbers -/
theorem spot_cells {n : Nat} {cs : List Value} {a b : Int} {ps : List MemPlace} (h : DataW.trod enc Tryd.prog W base spare held n 93 cs = some (.agg [.lit (.int .i64 a), .lit (.int .i64 b)], ps)) : cs = [.int .i64 a, .int .i64 b] := by
  obtain ⟨xs, m, _, hx, hl, hlen, hf⟩ := DataW.trod_struct Tryd.underlying93 h
  rw [cellsSpotW] at hl
  match cs, hl with
  | [c0, c1], _ =>
    match xs, hlen with
    | [y0, y1], _ =>
      have h0 := hf 0 _ rfl
      have h1 := hf 1 _ rfl
      simp [cellsI64W] at h0 h1
      obtain ⟨n0, e0, z0, _⟩ := DataW.trod_int Tryd.underlying2 h0
      obtain ⟨n1, e1, z1, _⟩ := DataW.trod_int Tryd.underlying2 h1
      simp at e0 e1
      subst e0 e1 z0 z1
      simp at hx
      rw [hx.1.1, hx.1.2]
end
end Go.Proofs.YtnmnlbgialolhaaDoor

/- What the frames of laws over corners of pictures share: the table of pixels on the right, and the error of work that is given up, as the row lays them. -/
namespace Go.Proofs.YtnmnlbgialolhaaDoor
open Go.ChangeShapes Go.WideShapes Go.ChangeAt Go.RowKit Go.Deep Go.WideElems
open Go.ChangeMaps (open_string shut_string)
set_option linter.unusedVariables false
set_option linter.unusedSimpArgs false
set_option maxRecDepth 100000

theorem gNor : Tryd.prog.globalNamed "loop.example/g01165/impl.errNoResult" = some 1 := by kernel_rfl
theorem tNor : (Tryd.prog.globals[1]?).map (·.type) = some 130 := by kernel_rfl
end Go.Proofs.YtnmnlbgialolhaaDoor

/- What the frame of ordered halftones takes from the row: the table of places, as the row lays it. -/
namespace Go.Proofs.YtnmnlbgialolhaaDoor
open Go.ChangeShapes Go.WideShapes Go.ChangeAt Go.RowKit Go.Deep Go.WideElems
open Go.ChangeMaps (open_string shut_string)
set_option linter.unusedVariables false
set_option linter.unusedSimpArgs false
set_option maxRecDepth 100000

theorem gPlc : Tryd.prog.globalNamed "loop.example/g01165/impl.places" = some 0 := by kernel_rfl
theorem tPlc : (Tryd.prog.globals[0]?).map (·.type) = some 96 := by kernel_rfl
theorem cellsPlc : Tryd.prog.cellsOf 96 = 16 := by kernel_rfl
theorem cellsPlr : Tryd.prog.cellsOf 95 = 4 := by kernel_rfl
theorem chunks4 {α : Type} (c n : Nat) (hc : 0 < c) (cs L : List α) (h1 : cs.length = n * c) (h2 : L.length = n * c) (h : ∀ i, i < n → (cs.drop (i * c)).take c = (L.drop (i * c)).take c) : cs = L := by
  apply List.ext_getElem?
  intro j
  by_cases hj : j < n * c
  · have hd : j / c < n := Nat.div_lt_of_lt_mul (by rw [Nat.mul_comm]; exact hj)
    have hm : j % c < c := Nat.mod_lt _ hc
    have e : j / c * c + j % c = j := by rw [Nat.mul_comm]; exact Nat.div_add_mod j c
    have := congrArg (·[j % c]?) (h _ hd)
    simp only [List.getElem?_take, hm, if_true, List.getElem?_drop, e] at this
    exact this
  · rw [List.getElem?_eq_none (by omega), List.getElem?_eq_none (by omega)]
theorem places_of {r : List (String × DataW Unit)} {W : World} (h : laidMet Tryd.prog (("loop.example/g01165/impl.places", Rows.laid_loop_example_g01165_impl_places) :: r) W) : PlcP W := by
  obtain ⟨ps, ⟨g0, t0, cs0, f0, p0, q0, hg0, ht0, hv0, hd0, _, e0⟩, _, hrows⟩ := h
  obtain rfl := Option.some.inj (gPlc.symm.trans hg0)
  obtain rfl := Option.some.inj (tPlc.symm.trans ht0)
  obtain ⟨xs, m, _, hx, hl, hlen, hf⟩ := DataW.trod_array Tryd.underlying96 hd0
  rw [cellsPlc] at hl
  rw [cellsPlr] at hf
  have hc := fun i => World.var?_cell gPlc hv0 i
  match xs, hlen with
  | [⟨d0, q0'⟩, ⟨d1, q1'⟩, ⟨d2, q2'⟩, ⟨d3, q3'⟩], _ =>
    unfold Rows.laid_loop_example_g01165_impl_places at hx
    simp at hx
    obtain ⟨⟨rfl, rfl, rfl, rfl⟩, _⟩ := hx
    have e0 := Lib.cells_of_tab (k := .i64) (zs := [0, 8, 2, 10]) Tryd.underlying95 Tryd.underlying2 cellsI64W cellsPlr (hf 0 (by omega))
    have e1 := Lib.cells_of_tab (k := .i64) (zs := [12, 4, 14, 6]) Tryd.underlying95 Tryd.underlying2 cellsI64W cellsPlr (hf 1 (by omega))
    have e2 := Lib.cells_of_tab (k := .i64) (zs := [3, 11, 1, 9]) Tryd.underlying95 Tryd.underlying2 cellsI64W cellsPlr (hf 2 (by omega))
    have e3 := Lib.cells_of_tab (k := .i64) (zs := [15, 7, 13, 5]) Tryd.underlying95 Tryd.underlying2 cellsI64W cellsPlr (hf 3 (by omega))
    have hall : cs0.toList = tbL.map (fun k => Value.int .i64 k) := by
      refine chunks4 4 4 (by omega) _ _ (by rw [hl]) rfl fun i hi => ?_
      rcases (by omega : i = 0 ∨ i = 1 ∨ i = 2 ∨ i = 3) with rfl | rfl | rfl | rfl
      · exact e0
      · exact e1
      · exact e2
      · exact e3
    have hat : ∀ j, j < 16 → cs0[j]? = some (.int .i64 (tbI j)) := fun j hj => by
      rw [← Array.getElem?_toList, hall, List.getElem?_map]
      have hlt : j < tbL.length := hj
      unfold tbI
      rw [List.getD_eq_getElem?_getD, List.getElem?_eq_getElem hlt]
      rfl
    refine ⟨fun j hj => ?_, World.block_lt_of_cell? W _ ((hc 0).trans (hat 0 (by omega)))⟩
    exact (hc j).trans (hat j hj)
end Go.Proofs.YtnmnlbgialolhaaDoor
