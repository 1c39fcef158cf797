/- What the frames of this seat's laws share: the listed error, a struct of one field by value. -/
import Derived.Test.YthblhibkbcmbaaaDoorRows
import Derived.Test.YthblhibkbcmbaaaDoorMo
import Derived.ProofKit
import Derived.OpenShut
import Derived.ShutString
import Derived.ChangeOld
import Derived.LaidMore
import Derived.LaidLaws
import Derived.LaidHandle
import Derived.Stop.LaidErr
import Derived.WalkSmall
import Derived.Stop.Joined
import Derived.ChangeVars
import Derived.SliceStrings
import Derived.Deep.Slices
import Derived.Test.YthblhibkbcmbaaaDoorRc
import Derived.OpenVars
import Derived.Test.YthblhibkbcmbaaaDoorR3
import Derived.Test.YthblhibkbcmbaaaDoorCV4
import Derived.Lib.LaidTab
import Derived.Test.YthblhibkbcmbaaaDoorI1
import Derived.Deep.MidRow
namespace Go.Proofs.YthblhibkbcmbaaaDoor
open Go.ChangeShapes Go.WideShapes Go.ChangeAt Go.RowKit Go.Deep Go.WideElems
open Go.ChangeMaps (open_string shut_string)
set_option linter.unusedVariables false

theorem own : ownKnob Tryd.prog.godebug = none := by kernel_rfl
theorem laidOut : laidOutB Tryd.prog = true := by kernel_rfl
theorem gErr : Tryd.prog.globalNamed "loop.example/g01165/impl.errRowLength" = some 2 := by kernel_rfl
theorem tErr : (Tryd.prog.globals[2]?).map (·.type) = some 89 := by kernel_rfl
theorem starName : "*" ++ "errors.errorString" = "*errors.errorString" := by decide
theorem rowErr (u : TypeId) (h : Tryd.prog.typeName? 3 u = some "*errors.errorString") : u = 137 :=
  typeName_ptr_named (nm := "errors.errorString") (by rw [starName]; kernel_rfl) (by kernel_rfl) (by decide) u (by rw [starName]; exact h)
theorem cellsErr : Tryd.prog.cellsOf 153 = 1 := by kernel_rfl
theorem cellsStr : Tryd.prog.cellsOf 9 = 1 := by kernel_rfl
theorem cellsPic : Tryd.prog.cellsOf 24 = 1 := by kernel_rfl


section
variable {H : Type} {enc : TypeId × Value → H} {P : Program} {w : World} {base : Nat} {spare : Nat → Bool} {held : Bool}
theorem array1 {α : Type} {cs : Array α} (h : cs.size = 1) : ∃ c0, cs = #[c0] := by
  obtain ⟨l⟩ := cs
  match l, h with
  | [c0], _ => exact ⟨c0, rfl⟩
theorem trod_struct1' {t : TypeId} {f0 : Field} {fuel : Nat} {cs : List Value} {x : DataW H × List MemPlace} (ht : P.underlying t = some (.struct #[f0])) (h : DataW.trod enc P w base spare held fuel t cs = some x) :
    ∃ y0 n, x = (.agg [y0.1], y0.2) ∧ cs.length = P.cellsOf t ∧ DataW.trod enc P w base spare held n f0.type ((cs.drop f0.offset).take (P.cellsOf f0.type)) = some y0 := by
  obtain ⟨xs, n, _, rfl, hl, hlen, hf⟩ := DataW.trod_struct ht h
  match xs, hlen with
  | [y0], _ => exact ⟨y0, n, by simp, hl, by simpa using hf 0 f0 rfl⟩
/-- A struct of one field of one cell, by value, opened. -/
theorem open_agg1 {r : Reach} {b0 : Nat} {t : TypeId} {f0 : Field} {v : Value} {d : DataW H} {p : List MemPlace} (hs : P.underlying t = some (.struct #[f0])) (hone : oneCellFields P #[f0] = true) (hC : P.cellsOf t = 1)
    (hv : Value.okWide P w r b0 t v) (h : DataW.Trod enc P w base spare held t v d p) :
    ∃ (v0 : Value) (y0 : DataW H × List MemPlace) (n : Nat), v = .agg #[v0] ∧ d = .agg [y0.1] ∧ p = y0.2 ∧ DataW.trod enc P w base spare held n f0.type [v0] = some y0 := by
  obtain ⟨cs, rfl, hsz⟩ := okWide_struct hs hv
  obtain ⟨c0, rfl⟩ := array1 (hsz.trans hC)
  obtain ⟨fuel, hf⟩ := h
  obtain ⟨y0, n, hx, _, h0⟩ := trod_struct1' hs hf
  obtain ⟨o0, k0⟩ := hone_of hone 0 f0 rfl
  simp only [Prod.mk.injEq] at hx
  exact ⟨c0, y0, n, rfl, hx.1, hx.2, by simpa [Value.cells, o0, k0] using h0⟩
end

/-- WHAT A PICTURE AMONG THE ARGUMENTS IS: a slice of strings, its cells there. -/
theorem open_picture {H : Type} {enc : TypeId × Value → H} {W : World} {v0 : Value} {y : DataW H × List MemPlace} {n : Nat}
    (h : DataW.trod enc Tryd.prog W 0 (fun _ => true) true n 22 [v0] = some y) : ∃ ss : List ByteArray, Sl W v0 ss ∧ ss.length ≤ maxLen ∧ ∀ s ∈ ss, s.size ≤ maxLen := by
  rcases open_strings Tryd.underlying22 Tryd.underlying9 (by kernel_rfl) h with ⟨hcs, _⟩ | ⟨a, len, cap, ss, hcs, _, hl, hm, hz, _, hcell, hsz⟩
  · simp at hcs
    subst hcs
    exact ⟨[], Or.inl ⟨none, 0, rfl, rfl⟩, by simp, fun s h => by cases h⟩
  · simp at hcs
    subst hcs
    have hz' : ss.length = cap := by simpa using hz
    refine ⟨ss.take len, ?_, ?_, fun s hs => hsz s (List.mem_of_mem_take hs)⟩
    · by_cases h0 : len = 0
      · subst h0
        exact Or.inl ⟨some a, cap, rfl, rfl⟩
      · obtain ⟨b, off, spot⟩ := a
        have hc := hcell 0 (by omega)
        have hspot : spot = none := by simpa [Addr.add] using World.cell?_spot hc
        subst hspot
        have hlen : (ss.take len).length = len := by rw [List.length_take]; omega
        refine Or.inr ⟨b, off, cap, by rw [hlen], by omega, blk_lt (by simpa [Addr.add] using hc), fun i hi => ?_⟩
        rw [hlen] at hi
        have := hcell i (by omega)
        rw [Addr.add_mid] at this
        rw [this]
        congr 2
        rw [List.getD_eq_getElem?_getD, List.getD_eq_getElem?_getD, List.getElem?_take_of_lt hi]
    · rw [List.length_take]; omega
end Go.Proofs.YthblhibkbcmbaaaDoor

/- What frames share: the number of variables, the two cells of a spot. -/
namespace Go.Proofs.YthblhibkbcmbaaaDoor
open Go.ChangeShapes Go.WideShapes Go.ChangeAt Go.RowKit Go.Deep Go.WideElems
open Go.ChangeMaps (open_string shut_string)
set_option linter.unusedVariables false
set_option linter.unusedSimpArgs false
set_option maxRecDepth 100000

theorem vars_len {H : Type} {enc : TypeId × Value → H} {P : Program} {W : World} {sp : Nat → Bool} : ∀ {ns : List String} {gs : List (DataW H)} {q : List MemPlace}, DataW.TrodVars enc P W sp ns gs q → gs.length = ns.length
  | [], [], _, _ => rfl
  | [], _ :: _, _, h => h.elim
  | _ :: _, [], _, h => h.elim
  | _ :: _, _ :: _, _, ⟨_, _, _, _, _, _, _, _, _, _, hs, _⟩ => congrArg (· + 1) (vars_len hs)
theorem cellsI64W : Tryd.prog.cellsOf 2 = 1 := by kernel_rfl
theorem cellsSpotW : Tryd.prog.cellsOf 76 = 2 := by kernel_rfl
section
variable {H : Type} {enc : TypeId × Value → H} {W : World} {base : Nat} {spare : Nat → Bool} {held : Bool}
set_option maxRecDepth 100000 in
/-- the two cells of a spot that reads as two numbers -/
theorem spot_cells {n : Nat} {cs : List Value} {a b : Int} {ps : List MemPlace} (h : DataW.trod enc Tryd.prog W base spare held n 76 cs = some (.agg [.lit (.int .i64 a), .lit (.int .i64 b)], ps)) : cs = [.int .i64 a, .int .i64 b] := by
  obtain ⟨xs, m, _, hx, hl, hlen, hf⟩ := DataW.trod_struct Tryd.underlying76 h
  rw [cellsSpotW] at hl
  match cs, hl with
  | [c0, c1], _ =>
    match xs, hlen with
    | [y0, y1], _ =>
      have h0 := hf 0 _ rfl
      have h1 := hf 1 _ rfl
      simp [cellsI64W] at h0 h1
      obtain ⟨n0, e0, z0, _⟩ := DataW.trod_int Tryd.underlying2 h0
      obtain ⟨n1, e1, z1, _⟩ := DataW.trod_int Tryd.underlying2 h1
      simp at e0 e1
      subst e0 e1 z0 z1
      simp at hx
      rw [hx.1.1, hx.1.2]
end
end Go.Proofs.YthblhibkbcmbaaaDoor

/- What the frames of laws over corners of pictures share: the table of pixels on the right, and the error of work that is given up, as the row lays them. -/
namespace Go.Proofs.YthblhibkbcmbaaaDoor
open Go.ChangeShapes Go.WideShapes Go.ChangeAt Go.RowKit Go.Deep Go.WideElems
open Go.ChangeMaps (open_string shut_string)
set_option linter.unusedVariables false
set_option linter.unusedSimpArgs false
set_option maxRecDepth 100000

theorem gNor : Tryd.prog.globalNamed "loop.example/g01165/impl.errNoResult" = some 0 := by kernel_rfl
theorem tNor : (Tryd.prog.globals[0]?).map (·.type) = some 89 := by kernel_rfl
end Go.Proofs.YthblhibkbcmbaaaDoor

/- What the frames of laws over curves share: the table of the quarters, as the row lays it. -/
namespace Go.Proofs.YthblhibkbcmbaaaDoor
open Go.ChangeShapes Go.WideShapes Go.ChangeAt Go.RowKit Go.Deep Go.WideElems
open Go.ChangeMaps (open_string shut_string)
set_option linter.unusedVariables false
set_option linter.unusedSimpArgs false
set_option maxRecDepth 100000

theorem gQv : Tryd.prog.globalNamed "loop.example/g01165/impl.quarterVisits" = some 4 := by kernel_rfl
theorem tQv : (Tryd.prog.globals[4]?).map (·.type) = some 136 := by kernel_rfl
theorem cellsQv : Tryd.prog.cellsOf 136 = 60 := by kernel_rfl
theorem cellsQr : Tryd.prog.cellsOf 135 = 12 := by kernel_rfl
theorem cellsQ1 : Tryd.prog.cellsOf 134 = 3 := by kernel_rfl
theorem cellsPl2 : Tryd.prog.cellsOf 129 = 2 := by kernel_rfl
theorem cellsMan : Tryd.prog.cellsOf 120 = 1 := by kernel_rfl
theorem chunks {α : Type} (c n : Nat) (hc : 0 < c) (cs L : List α) (h1 : cs.length = n * c) (h2 : L.length = n * c) (h : ∀ i, i < n → (cs.drop (i * c)).take c = (L.drop (i * c)).take c) : cs = L := by
  apply List.ext_getElem?
  intro j
  by_cases hj : j < n * c
  · have hd : j / c < n := Nat.div_lt_of_lt_mul (by rw [Nat.mul_comm]; exact hj)
    have hm : j % c < c := Nat.mod_lt _ hc
    have e : j / c * c + j % c = j := by rw [Nat.mul_comm]; exact Nat.div_add_mod j c
    have := congrArg (·[j % c]?) (h _ hd)
    simp only [List.getElem?_take, hm, if_true, List.getElem?_drop, e] at this
    exact this
  · rw [List.getElem?_eq_none (by omega), List.getElem?_eq_none (by omega)]
section
variable {H : Type} {enc : TypeId × Value → H} {W : World} {base : Nat} {spare : Nat → Bool} {held : Bool}
/-- the cells of a quarter -/
theorem visit_cells {n : Nat} {cs : List Value} {a b c : Int} {ps : List MemPlace} (h : DataW.trod enc Tryd.prog W base spare held n 134 cs = some (.agg [.agg [.lit (.int .i64 a), .lit (.int .i64 b)], .lit (.int .i64 c)], ps)) : cs = [.int .i64 a, .int .i64 b, .int .i64 c] := by
  obtain ⟨xs, m, _, hx, hl, hlen, hf⟩ := DataW.trod_struct Tryd.underlying134 h
  rw [cellsQ1] at hl
  match cs, hl with
  | [c0, c1, c2], _ =>
    match xs, hlen with
    | [⟨d0, y0⟩, ⟨d1, y1⟩], _ =>
      have h0 := hf 0 _ rfl
      have h1 := hf 1 _ rfl
      simp [cellsPl2, cellsMan] at h0 h1
      simp at hx
      obtain ⟨⟨rfl, rfl⟩, _⟩ := hx
      have e0 := Lib.cells_of_tab (k := .i64) (zs := [a, b]) Tryd.underlying129 Tryd.underlying2 cellsI64W cellsPl2 h0
      obtain ⟨z, hz, hz2, _⟩ := DataW.trod_int Tryd.underlying120 h1
      simp at e0 hz hz2
      obtain ⟨rfl, rfl⟩ := e0
      rw [hz, hz2.1]
/-- the cells of a row of quarters -/
theorem row4_cells {n : Nat} {cs : List Value} {a0 b0 c0 a1 b1 c1 a2 b2 c2 a3 b3 c3 : Int} {ps : List MemPlace} (h : DataW.trod enc Tryd.prog W base spare held n 135 cs = some (.agg [.agg [.agg [.lit (.int .i64 a0), .lit (.int .i64 b0)], .lit (.int .i64 c0)], .agg [.agg [.lit (.int .i64 a1), .lit (.int .i64 b1)], .lit (.int .i64 c1)], .agg [.agg [.lit (.int .i64 a2), .lit (.int .i64 b2)], .lit (.int .i64 c2)], .agg [.agg [.lit (.int .i64 a3), .lit (.int .i64 b3)], .lit (.int .i64 c3)]], ps)) :
    cs = [.int .i64 a0, .int .i64 b0, .int .i64 c0, .int .i64 a1, .int .i64 b1, .int .i64 c1, .int .i64 a2, .int .i64 b2, .int .i64 c2, .int .i64 a3, .int .i64 b3, .int .i64 c3] := by
  obtain ⟨xs, m, _, hx, hl, hlen, hf⟩ := DataW.trod_array Tryd.underlying135 h
  rw [cellsQr] at hl
  rw [cellsQ1] at hf
  match xs, hlen with
  | [⟨d0, q0⟩, ⟨d1, q1⟩, ⟨d2, q2⟩, ⟨d3, q3⟩], _ =>
    simp at hx
    obtain ⟨⟨rfl, rfl, rfl, rfl⟩, _⟩ := hx
    have e0 := visit_cells (hf 0 (by omega))
    have e1 := visit_cells (hf 1 (by omega))
    have e2 := visit_cells (hf 2 (by omega))
    have e3 := visit_cells (hf 3 (by omega))
    refine chunks 3 4 (by omega) _ _ (by rw [hl]) rfl fun i hi => ?_
    rcases (by omega : i = 0 ∨ i = 1 ∨ i = 2 ∨ i = 3) with rfl | rfl | rfl | rfl
    · exact e0
    · exact e1
    · exact e2
    · exact e3
end
theorem quarters_of {r : List (String × DataW Unit)} {W : World} (h : laidMet Tryd.prog (("loop.example/g01165/impl.quarterVisits", Rows.laid_loop_example_g01165_impl_quarterVisits) :: r) W) : QvP W := by
  obtain ⟨ps, ⟨g0, t0, cs0, f0, p0, q0, hg0, ht0, hv0, hd0, _, e0⟩, _, hrows⟩ := h
  obtain rfl := Option.some.inj (gQv.symm.trans hg0)
  obtain rfl := Option.some.inj (tQv.symm.trans ht0)
  obtain ⟨xs, m, _, hx, hl, hlen, hf⟩ := DataW.trod_array Tryd.underlying136 hd0
  rw [cellsQv] at hl
  rw [cellsQr] at hf
  have hc := fun i => World.var?_cell gQv hv0 i
  match xs, hlen with
  | [⟨d0, q0'⟩, ⟨d1, q1'⟩, ⟨d2, q2'⟩, ⟨d3, q3'⟩, ⟨d4, q4'⟩], _ =>
    unfold Rows.laid_loop_example_g01165_impl_quarterVisits at hx
    simp at hx
    obtain ⟨⟨rfl, rfl, rfl, rfl, rfl⟩, _⟩ := hx
    have e0 := row4_cells (hf 0 (by omega))
    have e1 := row4_cells (hf 1 (by omega))
    have e2 := row4_cells (hf 2 (by omega))
    have e3 := row4_cells (hf 3 (by omega))
    have e4 := row4_cells (hf 4 (by omega))
    have hall : cs0.toList = qvL.map (fun k => Value.int .i64 ((k : Nat) : Int)) := by
      refine chunks 12 5 (by omega) _ _ (by rw [hl]) rfl fun i hi => ?_
      rcases (by omega : i = 0 ∨ i = 1 ∨ i = 2 ∨ i = 3 ∨ i = 4) with rfl | rfl | rfl | rfl | rfl
      · exact e0
      · exact e1
      · exact e2
      · exact e3
      · exact e4
    have hat : ∀ j, j < 60 → cs0[j]? = some (.int .i64 ((qvL.getD j 0 : Nat) : Int)) := fun j hj => by
      rw [← Array.getElem?_toList, hall, List.getElem?_map, List.getD_eq_getElem?_getD]
      have hlt : j < qvL.length := hj
      rw [List.getElem?_eq_getElem hlt]
      rfl
    refine ⟨fun j hj => ?_, World.block_lt_of_cell? W _ ((hc 0).trans (hat 0 (by omega)))⟩
    exact (hc j).trans (hat j hj)
end Go.Proofs.YthblhibkbcmbaaaDoor

/- A slice of numbers among the arguments, opened (beside pictures). -/
namespace Go.Proofs.YthblhibkbcmbaaaDoor
open Go.ChangeShapes Go.WideShapes Go.ChangeAt Go.RowKit Go.Deep Go.WideElems
set_option linter.unusedVariables false

theorem ints_someN {w : World} {b off n : Nat} (h : ∀ i, i < n → ∃ x : Int, w.cell? ⟨b, off + i, none⟩ = some (.int .i64 x)) :
    ∃ ns : List Int, ns.length = n ∧ ∀ i, i < n → w.cell? ⟨b, off + i, none⟩ = some (.int .i64 (ns.getD i 0)) := by
  induction n with
  | zero => exact ⟨[], rfl, fun i hi => by omega⟩
  | succ n ih =>
    obtain ⟨xs, hl, hx⟩ := ih (fun i hi => h i (by omega))
    obtain ⟨x, h1⟩ := h n (by omega)
    refine ⟨xs ++ [x], by simp [hl], fun i hi => ?_⟩
    by_cases e : i < n
    · have := hx i e
      rwa [show (xs ++ [x]).getD i 0 = xs.getD i 0 from by rw [List.getD_eq_getElem?_getD, List.getD_eq_getElem?_getD, List.getElem?_append_left (by omega)]]
    · obtain rfl : i = n := by omega
      rw [show (xs ++ [x]).getD i 0 = x from by rw [List.getD_eq_getElem?_getD, List.getElem?_append_right (by omega), hl, Nat.sub_self]; rfl]
      exact h1

set_option maxRecDepth 100000 in
theorem open_intsN {H : Type} {enc : TypeId × Value → H} {W : World} {v0 : Value} {d : DataW H} {p : List MemPlace} {b0 : Nat} {r : Reach} (hv : Value.okWide Tryd.prog W r b0 26 v0)
    (h : DataW.Trod enc Tryd.prog W 0 (fun _ => true) true 26 v0 d p) : ∃ ns : List Int, SlN W v0 ns ∧ ns.length ≤ maxLen := by
  obtain ⟨a0, l0, c0, rfl⟩ := okWide_slice Tryd.underlying26 hv
  obtain ⟨fuel, hf⟩ := h
  rcases open_slice1 Tryd.underlying26 (by kernel_rfl) hf with ⟨hcs, _⟩ | ⟨a, len, cap, m, n, V, D, Pl, hcs, _, hl, hm, hmm, _, hx⟩
  · simp [Value.cells] at hcs
    obtain ⟨rfl, rfl, rfl⟩ := hcs
    exact ⟨[], Or.inl ⟨none, 0, rfl, rfl⟩, by simp⟩
  · simp [Value.cells] at hcs
    obtain ⟨rfl, rfl, rfl⟩ := hcs
    have hm' : m = c0 := by simpa using hmm
    by_cases h0 : l0 = 0
    · subst h0
      exact ⟨[], Or.inl ⟨_, _, rfl, rfl⟩, by simp⟩
    · obtain ⟨b, off, spot⟩ := a
      have hc := (hx 0 (by omega)).1
      have hspot : spot = none := by simpa [Addr.add] using World.cell?_spot hc
      subst hspot
      have hblk : b < W.heap.size := blk_lt (o := off) (v := V 0) (by simpa [Addr.add] using hc)
      obtain ⟨xs, hlen, hxs⟩ := ints_someN (w := W) (b := b) (off := off) (n := l0) (fun i hi => by
        obtain ⟨g0, t0⟩ := hx i (by omega)
        obtain ⟨n0, e0, _, _⟩ := DataW.trod_int Tryd.underlying2 t0
        simp only [List.cons.injEq, and_true] at e0
        rw [Addr.add_mid] at g0
        exact ⟨n0, by rw [g0, e0]⟩)
      refine ⟨xs, Or.inr ⟨b, off, c0, by rw [hlen], by omega, hblk, fun i hi => hxs i (by omega)⟩, by omega⟩
end Go.Proofs.YthblhibkbcmbaaaDoor
