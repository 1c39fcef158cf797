/- What frames share: the number of variables, the two cells of a spot. -/
import Derived.Test.YtakaglbbcaplhaaDoorRows
import Derived.Test.YtakaglbbcaplhaaDoorWd
import Derived.Test.YtakaglbbcaplhaaDoorRc
import Derived.ProofKit
import Derived.OpenShut
import Derived.ShutString
import Derived.ChangeOld
import Derived.LaidMore
import Derived.LaidLaws
import Derived.LaidHandle
import Derived.Stop.LaidErr
import Derived.WalkSmall
import Derived.Stop.Joined
import Derived.ChangeVars
import Derived.SliceStrings
import Derived.Deep.Slices
import Derived.OpenVars
import Derived.Test.YtakaglbbcaplhaaDoorFr
import Derived.Test.YtakaglbbcaplhaaDoorR3
import Derived.Test.YtakaglbbcaplhaaDoorS3
namespace Go.Proofs.YtakaglbbcaplhaaDoor
open Go.ChangeShapes Go.WideShapes Go.ChangeAt Go.RowKit Go.Deep Go.WideElems
open Go.ChangeMaps (open_string shut_string)
set_option linter.unusedVariables false
set_option linter.unusedSimpArgs false
set_option maxRecDepth 100000

theorem vars_len {H : Type} {enc : TypeId × Value → H} {P : Program} {W : World} {sp : Nat → Bool} : ∀ {ns : List String} {gs : List (DataW H)} {q : List MemPlace}, DataW.TrodVars enc P W sp ns gs q → gs.length = ns.length
  | [], [], _, _ => rfl
  | [], _ :: _, _, h => h.elim
  | _ :: _, [], _, h => h.elim
  | _ :: _, _ :: _, _, ⟨_, _, _, _, _, _, _, _, _, _, hs, _⟩ => congrArg (· + 1) (vars_len hs)
theorem cellsI64W : Tryd.prog.cellsOf 2 = 1 := by kernel_rfl
theorem cellsSpotW : Tryd.prog.cellsOf 31 = 2 := by kernel_rfl
section
variable {H : Type} {enc : TypeId × Value → H} {W : World} {base : Nat} {spare : Nat → Bool} {held : Bool}
set_option maxRecDepth 100000 in
/-- the two cells of a spot that reads as two numbers -/
theorem spot_cells {n : Nat} {cs : List Value} {a b : Int} {ps : List MemPlace} (h : DataW.trod enc Tryd.prog W base spare held n 31 cs = some (.agg [.lit (.int .i64 a), .lit (.int .i64 b)], ps)) : cs = [.int .i64 a, .int .i64 b] := by
  obtain ⟨xs, m, _, hx, hl, hlen, hf⟩ := DataW.trod_struct Tryd.underlying31 h
  rw [cellsSpotW] at hl
  match cs, hl with
  | [c0, c1], _ =>
    match xs, hlen with
    | [y0, y1], _ =>
      have h0 := hf 0 _ rfl
      have h1 := hf 1 _ rfl
      simp [cellsI64W] at h0 h1
      obtain ⟨n0, e0, z0, _⟩ := DataW.trod_int Tryd.underlying2 h0
      obtain ⟨n1, e1, z1, _⟩ := DataW.trod_int Tryd.underlying2 h1
      simp at e0 e1
      subst e0 e1 z0 z1
      simp at hx
      rw [hx.1.1, hx.1.2]
end
end Go.Proofs.YtakaglbbcaplhaaDoor

/- What the frames of laws over corners of pictures share: the table of pixels on the right, and the error of work that is given up, as the row lays them. -/
namespace Go.Proofs.YtakaglbbcaplhaaDoor
open Go.ChangeShapes Go.WideShapes Go.ChangeAt Go.RowKit Go.Deep Go.WideElems
open Go.ChangeMaps (open_string shut_string)
set_option linter.unusedVariables false
set_option linter.unusedSimpArgs false
set_option maxRecDepth 100000

theorem gNor : Tryd.prog.globalNamed "loop.example/g01165/impl.errNoResult" = some 1 := by kernel_rfl
theorem tNor : (Tryd.prog.globals[1]?).map (·.type) = some 135 := by kernel_rfl
end Go.Proofs.YtakaglbbcaplhaaDoor

/- What the frames of laws over the pixels around one share: the table of these, as the row lays it. -/
namespace Go.Proofs.YtakaglbbcaplhaaDoor
open Go.ChangeShapes Go.WideShapes Go.ChangeAt Go.RowKit Go.Deep Go.WideElems
open Go.ChangeMaps (open_string shut_string)
set_option linter.unusedVariables false
set_option linter.unusedSimpArgs false
set_option maxRecDepth 100000

theorem gRg : Tryd.prog.globalNamed "loop.example/g01165/impl.ringOffsets" = some 0 := by kernel_rfl
theorem tRg : (Tryd.prog.globals[0]?).map (·.type) = some 138 := by kernel_rfl
theorem cellsRg : Tryd.prog.cellsOf 138 = 16 := by kernel_rfl
theorem ring_of {r : List (String × DataW Unit)} {W : World} (h : laidMet Tryd.prog (("loop.example/g01165/impl.ringOffsets", Rows.laid_loop_example_g01165_impl_ringOffsets) :: r) W) : RingP W := by
  obtain ⟨ps, ⟨g0, t0, cs0, f0, p0, q0, hg0, ht0, hv0, hd0, _, e0⟩, _, hrows⟩ := h
  obtain rfl := Option.some.inj (gRg.symm.trans hg0)
  obtain rfl := Option.some.inj (tRg.symm.trans ht0)
  obtain ⟨xs, m, _, hx, hl, hlen, hf⟩ := DataW.trod_array Tryd.underlying138 hd0
  rw [cellsRg] at hl
  rw [cellsSpotW] at hf
  have hc := fun i => World.var?_cell gRg hv0 i
  obtain ⟨l⟩ := cs0
  match l, hl with
  | [a0, a1, a2, a3, a4, a5, a6, a7, a8, a9, a10, a11, a12, a13, a14, a15], _ =>
    match xs, hlen with
    | [⟨d0, q0'⟩, ⟨d1, q1'⟩, ⟨d2, q2'⟩, ⟨d3, q3'⟩, ⟨d4, q4'⟩, ⟨d5, q5'⟩, ⟨d6, q6'⟩, ⟨d7, q7'⟩], _ =>
      unfold Rows.laid_loop_example_g01165_impl_ringOffsets at hx
      simp at hx
      obtain ⟨⟨rfl, rfl, rfl, rfl, rfl, rfl, rfl, rfl⟩, _⟩ := hx
      have e0 := spot_cells (hf 0 (by omega))
      have e1 := spot_cells (hf 1 (by omega))
      have e2 := spot_cells (hf 2 (by omega))
      have e3 := spot_cells (hf 3 (by omega))
      have e4 := spot_cells (hf 4 (by omega))
      have e5 := spot_cells (hf 5 (by omega))
      have e6 := spot_cells (hf 6 (by omega))
      have e7 := spot_cells (hf 7 (by omega))
      simp at e0 e1 e2 e3 e4 e5 e6 e7
      obtain ⟨rfl, rfl⟩ := e0
      obtain ⟨rfl, rfl⟩ := e1
      obtain ⟨rfl, rfl⟩ := e2
      obtain ⟨rfl, rfl⟩ := e3
      obtain ⟨rfl, rfl⟩ := e4
      obtain ⟨rfl, rfl⟩ := e5
      obtain ⟨rfl, rfl⟩ := e6
      obtain ⟨rfl, rfl⟩ := e7
      refine ⟨fun j v hv => ?_, World.block_lt_of_cell? W _ (hc 0)⟩
      rw [Nat.zero_add]
      unfold rgL at hv
      rcases (by have := (List.getElem?_eq_some_iff.1 hv).1; simp at this; omega : j = 0 ∨ j = 1 ∨ j = 2 ∨ j = 3 ∨ j = 4 ∨ j = 5 ∨ j = 6 ∨ j = 7 ∨ j = 8 ∨ j = 9 ∨ j = 10 ∨ j = 11 ∨ j = 12 ∨ j = 13 ∨ j = 14 ∨ j = 15) with rfl | rfl | rfl | rfl | rfl | rfl | rfl | rfl | rfl | rfl | rfl | rfl | rfl | rfl | rfl | rfl
      all_goals (
        simp at hv
        subst hv
        exact hc _)
end Go.Proofs.YtakaglbbcaplhaaDoor
