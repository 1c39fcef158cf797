/- What the frames of the laws of borders share: a border among the arguments, opened; the table of moves, as the row lays it. -/
import Derived.Test.YtlmmeefcnjcceaaDoorRows
import Derived.Test.YtlmmeefcnjcceaaDoorOk
import Derived.ProofKit
import Derived.OpenShut
import Derived.ShutString
import Derived.ChangeOld
import Derived.LaidMore
import Derived.LaidLaws
import Derived.LaidHandle
import Derived.Stop.LaidErr
import Derived.WalkSmall
import Derived.Stop.Joined
import Derived.ChangeVars
import Derived.SliceStrings
import Derived.Deep.Slices
import Derived.OpenVars
namespace Go.Proofs.YtlmmeefcnjcceaaDoor
open Go.ChangeShapes Go.WideShapes Go.ChangeAt Go.RowKit Go.Deep Go.WideElems
open Go.ChangeMaps (open_string shut_string)
set_option linter.unusedVariables false
set_option linter.unusedSimpArgs false

theorem vars_len {H : Type} {enc : TypeId × Value → H} {P : Program} {W : World} {sp : Nat → Bool} : ∀ {ns : List String} {gs : List (DataW H)} {q : List MemPlace}, DataW.TrodVars enc P W sp ns gs q → gs.length = ns.length
  | [], [], _, _ => rfl
  | [], _ :: _, _, h => h.elim
  | _ :: _, [], _, h => h.elim
  | _ :: _, _ :: _, _, ⟨_, _, _, _, _, _, _, _, _, _, hs, _⟩ => congrArg (· + 1) (vars_len hs)
theorem own : ownKnob Tryd.prog.godebug = none := by kernel_rfl
theorem laidOut : laidOutB Tryd.prog = true := by kernel_rfl
theorem gMov : Tryd.prog.globalNamed "loop.example/g01165/impl.moves" = some 0 := by kernel_rfl
theorem tMov : (Tryd.prog.globals[0]?).map (·.type) = some 125 := by kernel_rfl
theorem cellsSpotL : Tryd.prog.cellsOf 23 = 2 := by kernel_rfl
theorem cellsBordL : Tryd.prog.cellsOf 25 = 3 := by kernel_rfl
theorem cellsStrO : Tryd.prog.cellsOf 9 = 1 := by kernel_rfl
theorem cellsMov : Tryd.prog.cellsOf 125 = 8 := by kernel_rfl

section
variable {H : Type} {enc : TypeId × Value → H} {W : World} {base : Nat} {spare : Nat → Bool} {held : Bool}
set_option maxRecDepth 100000 in
/-- the two cells of a spot that reads as two numbers -/
theorem spot_cells {n : Nat} {cs : List Value} {a b : Int} {ps : List MemPlace} (h : DataW.trod enc Tryd.prog W base spare held n 28 cs = some (.agg [.lit (.int .i64 a), .lit (.int .i64 b)], ps)) : cs = [.int .i64 a, .int .i64 b] := by
  obtain ⟨xs, m, _, hx, hl, hlen, hf⟩ := DataW.trod_struct Tryd.underlying28 h
  rw [cellsSpot] at hl
  match cs, hl with
  | [c0, c1], _ =>
    match xs, hlen with
    | [y0, y1], _ =>
      have h0 := hf 0 _ rfl
      have h1 := hf 1 _ rfl
      simp [cellsI64] at h0 h1
      obtain ⟨n0, e0, z0, _⟩ := DataW.trod_int Tryd.underlying2 h0
      obtain ⟨n1, e1, z1, _⟩ := DataW.trod_int Tryd.underlying2 h1
      simp at e0 e1
      subst e0 e1 z0 z1
      simp at hx
      rw [hx.1.1, hx.1.2]
end
theorem moves_of {r : List (String × DataW Unit)} {W : World} (h : laidMet Tryd.prog (("loop.example/g01165/impl.moves", Rows.laid_loop_example_g01165_impl_moves) :: r) W) : Moves W := by
  obtain ⟨ps, ⟨g0, t0, cs0, f0, p0, q0, hg0, ht0, hv0, hd0, _, e0⟩, _, hrows⟩ := h
  obtain rfl := Option.some.inj (gMov.symm.trans hg0)
  obtain rfl := Option.some.inj (tMov.symm.trans ht0)
  obtain ⟨xs, m, _, hx, hl, hlen, hf⟩ := DataW.trod_array Tryd.underlying125 hd0
  rw [cellsMov] at hl
  rw [cellsSpot] at hf
  have hc := fun i => World.var?_cell gMov hv0 i
  obtain ⟨l⟩ := cs0
  match l, hl with
  | [a0, a1, a2, a3, a4, a5, a6, a7], _ =>
    match xs, hlen with
    | [⟨d0, q0'⟩, ⟨d1, q1'⟩, ⟨d2, q2'⟩, ⟨d3, q3'⟩], _ =>
      unfold Rows.laid_loop_example_g01165_impl_moves at hx
      simp at hx
      obtain ⟨⟨rfl, rfl, rfl, rfl⟩, _⟩ := hx
      have e0 := spot_cells (hf 0 (by omega))
      have e1 := spot_cells (hf 1 (by omega))
      have e2 := spot_cells (hf 2 (by omega))
      have e3 := spot_cells (hf 3 (by omega))
      simp at e0 e1 e2 e3
      obtain ⟨rfl, rfl⟩ := e0
      obtain ⟨rfl, rfl⟩ := e1
      obtain ⟨rfl, rfl⟩ := e2
      obtain ⟨rfl, rfl⟩ := e3
      intro d hd
      rcases (by omega : d = 0 ∨ d = 1 ∨ d = 2 ∨ d = 3) with rfl | rfl | rfl | rfl
      · exact ⟨hc 0, hc 1⟩
      · exact ⟨hc 2, hc 3⟩
      · exact ⟨hc 4, hc 5⟩
      · exact ⟨hc 6, hc 7⟩

set_option maxRecDepth 100000 in
/-- WHAT A BORDER AMONG THE ARGUMENTS IS -/
theorem open_border {H : Type} {enc : TypeId × Value → H} {W : World} {v0 : Value} {d : DataW H} {p : List MemPlace} {b0 : Nat} {r : Reach} (hv : Value.okWide Tryd.prog W r b0 25 v0)
    (h : DataW.Trod enc Tryd.prog W 0 (fun _ => true) true 25 v0 d p) : ∃ (X Y : Int) (s : ByteArray), v0 = .agg #[.int .i64 X, .int .i64 Y, .string s] ∧ s.size ≤ maxLen := by
  obtain ⟨cs, rfl, hsz⟩ := okWide_struct Tryd.underlying25 hv
  rw [cellsBordL] at hsz
  obtain ⟨l⟩ := cs
  match l, hsz with
  | [c0, c1, c2], _ =>
    obtain ⟨fuel, hf0⟩ := h
    obtain ⟨xs, m, _, hx, hl, hlen, hf⟩ := DataW.trod_struct Tryd.underlying25 hf0
    match xs, hlen with
    | [y0, y1], _ =>
      have h0 := hf 0 _ rfl
      have h1 := hf 1 _ rfl
      simp [Value.cells, cellsSpotL, cellsStrO] at h0 h1
      obtain ⟨s, e1, _, hs⟩ := DataW.trod_string Tryd.underlying9 h1
      obtain ⟨zs, k, _, hz, kl, klen, kf⟩ := DataW.trod_struct Tryd.underlying23 h0
      match zs, klen with
      | [z0, z1], _ =>
        have k0 := kf 0 _ rfl
        have k1 := kf 1 _ rfl
        simp [cellsI64] at k0 k1
        obtain ⟨n0, e2, _, _⟩ := DataW.trod_int Tryd.underlying2 k0
        obtain ⟨n1, e3, _, _⟩ := DataW.trod_int Tryd.underlying2 k1
        simp at e1 e2 e3
        subst e1 e2 e3
        exact ⟨n0, n1, s, rfl, hs⟩
end Go.Proofs.YtlmmeefcnjcceaaDoor
