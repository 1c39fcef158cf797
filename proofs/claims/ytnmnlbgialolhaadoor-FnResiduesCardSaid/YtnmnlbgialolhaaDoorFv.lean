/- What the frames of this seat's laws share: the listed error, a struct of one field by value. -/
import Derived.Test.YtnmnlbgialolhaaDoorRows
import Derived.Test.YtnmnlbgialolhaaDoorMo
import Derived.ProofKit
import Derived.OpenShut
import Derived.ShutString
import Derived.ChangeOld
import Derived.LaidMore
import Derived.LaidLaws
import Derived.LaidHandle
import Derived.Stop.LaidErr
import Derived.WalkSmall
import Derived.Stop.Joined
import Derived.ChangeVars
import Derived.SliceStrings
import Derived.Deep.Slices
import Derived.Test.YtnmnlbgialolhaaDoorBY
import Derived.Deep.MidRow
import Derived.Test.YtnmnlbgialolhaaDoorRc
import Derived.OpenVars
import Derived.Test.YtnmnlbgialolhaaDoorR3
namespace Go.Proofs.YtnmnlbgialolhaaDoor
open Go.ChangeShapes Go.WideShapes Go.ChangeAt Go.RowKit Go.Deep Go.WideElems
open Go.ChangeMaps (open_string shut_string)
set_option linter.unusedVariables false

theorem own : ownKnob Tryd.prog.godebug = none := by kernel_rfl
theorem laidOut : laidOutB Tryd.prog = true := by kernel_rfl
theorem gErr : Tryd.prog.globalNamed "loop.example/g01165/impl.errRowLength" = some 4 := by kernel_rfl
theorem tErr : (Tryd.prog.globals[4]?).map (·.type) = some 130 := by kernel_rfl
theorem starName : "*" ++ "errors.errorString" = "*errors.errorString" := by decide
theorem rowErr (u : TypeId) (h : Tryd.prog.typeName? 3 u = some "*errors.errorString") : u = 163 :=
  typeName_ptr_named (nm := "errors.errorString") (by rw [starName]; kernel_rfl) (by kernel_rfl) (by decide) u (by rw [starName]; exact h)
theorem cellsErr : Tryd.prog.cellsOf 179 = 1 := by kernel_rfl
theorem cellsStr : Tryd.prog.cellsOf 9 = 1 := by kernel_rfl
theorem cellsPic : Tryd.prog.cellsOf 24 = 1 := by kernel_rfl


section
variable {H : Type} {enc : TypeId × Value → H} {P : Program} {w : World} {base : Nat} {spare : Nat → Bool} {held : Bool}
theorem array1 {α : Type} {cs : Array α} (h : cs.size = 1) : ∃ c0, cs = #[c0] := by
  obtain ⟨l⟩ := cs
  match l, h with
  | [c0], _ => exact ⟨c0, rfl⟩
theorem trod_struct1' {t : TypeId} {f0 : Field} {fuel : Nat} {cs : List Value} {x : DataW H × List MemPlace} (ht : P.underlying t = some (.struct #[f0])) (h : DataW.trod enc P w base spare held fuel t cs = some x) :
    ∃ y0 n, x = (.agg [y0.1], y0.2) ∧ cs.length = P.cellsOf t ∧ DataW.trod enc P w base spare held n f0.type ((cs.drop f0.offset).take (P.cellsOf f0.type)) = some y0 := by
  obtain ⟨xs, n, _, rfl, hl, hlen, hf⟩ := DataW.trod_struct ht h
  match xs, hlen with
  | [y0], _ => exact ⟨y0, n, by simp, hl, by simpa using hf 0 f0 rfl⟩
/-- A struct of one field of one cell, by value, opened. -/
theorem open_agg1 {r : Reach} {b0 : Nat} {t : TypeId} {f0 : Field} {v : Value} {d : DataW H} {p : List MemPlace} (hs : P.underlying t = some (.struct #[f0])) (hone : oneCellFields P #[f0] = true) (hC : P.cellsOf t = 1)
    (hv : Value.okWide P w r b0 t v) (h : DataW.Trod enc P w base spare held t v d p) :
    ∃ (v0 : Value) (y0 : DataW H × List MemPlace) (n : Nat), v = .agg #[v0] ∧ d = .agg [y0.1] ∧ p = y0.2 ∧ DataW.trod enc P w base spare held n f0.type [v0] = some y0 := by
  obtain ⟨cs, rfl, hsz⟩ := okWide_struct hs hv
  obtain ⟨c0, rfl⟩ := array1 (hsz.trans hC)
  obtain ⟨fuel, hf⟩ := h
  obtain ⟨y0, n, hx, _, h0⟩ := trod_struct1' hs hf
  obtain ⟨o0, k0⟩ := hone_of hone 0 f0 rfl
  simp only [Prod.mk.injEq] at hx
  exact ⟨c0, y0, n, rfl, hx.1, hx.2, by simpa [Value.cells, o0, k0] using h0⟩
end

/-- WHAT A PICTURE AMONG THE ARGUMENTS IS: a slice of strings, its cells there. -/
theorem open_picture {H : Type} {enc : TypeId × Value → H} {W : World} {v0 : Value} {y : DataW H × List MemPlace} {n : Nat}
    (h : DataW.trod enc Tryd.prog W 0 (fun _ => true) true n 22 [v0] = some y) : ∃ ss : List ByteArray, Sl W v0 ss ∧ ss.length ≤ maxLen ∧ ∀ s ∈ ss, s.size ≤ maxLen := by
  rcases open_strings Tryd.underlying22 Tryd.underlying9 (by kernel_rfl) h with ⟨hcs, _⟩ | ⟨a, len, cap, ss, hcs, _, hl, hm, hz, _, hcell, hsz⟩
  · simp at hcs
    subst hcs
    exact ⟨[], Or.inl ⟨none, 0, rfl, rfl⟩, by simp, fun s h => by cases h⟩
  · simp at hcs
    subst hcs
    have hz' : ss.length = cap := by simpa using hz
    refine ⟨ss.take len, ?_, ?_, fun s hs => hsz s (List.mem_of_mem_take hs)⟩
    · by_cases h0 : len = 0
      · subst h0
        exact Or.inl ⟨some a, cap, rfl, rfl⟩
      · obtain ⟨b, off, spot⟩ := a
        have hc := hcell 0 (by omega)
        have hspot : spot = none := by simpa [Addr.add] using World.cell?_spot hc
        subst hspot
        have hlen : (ss.take len).length = len := by rw [List.length_take]; omega
        refine Or.inr ⟨b, off, cap, by rw [hlen], by omega, blk_lt (by simpa [Addr.add] using hc), fun i hi => ?_⟩
        rw [hlen] at hi
        have := hcell i (by omega)
        rw [Addr.add_mid] at this
        rw [this]
        congr 2
        rw [List.getD_eq_getElem?_getD, List.getD_eq_getElem?_getD, List.getElem?_take_of_lt hi]
    · rw [List.length_take]; omega
end Go.Proofs.YtnmnlbgialolhaaDoor

/- A slice of bytes among the arguments, opened. -/
namespace Go.Proofs.YtnmnlbgialolhaaDoor
open Go.ChangeShapes Go.WideShapes Go.ChangeAt Go.RowKit Go.Deep Go.WideElems
set_option linter.unusedVariables false
set_option linter.unusedSimpArgs false

theorem bytes_some {w : World} {b off n : Nat} (h : ∀ i, i < n → ∃ x : Nat, x < 256 ∧ w.cell? ⟨b, off + i, none⟩ = some (.int .u8 (x : Int))) :
    ∃ ns : List Nat, ns.length = n ∧ (∀ i, ns.getD i 0 < 256) ∧ ∀ i, i < n → w.cell? ⟨b, off + i, none⟩ = some (.int .u8 ((ns.getD i 0 : Nat) : Int)) := by
  induction n with
  | zero => exact ⟨[], rfl, fun i => by simp, fun i hi => by omega⟩
  | succ n ih =>
    obtain ⟨xs, hl, hb, hx⟩ := ih (fun i hi => h i (by omega))
    obtain ⟨x, hx1, h1⟩ := h n (by omega)
    have hg : ∀ i, (xs ++ [x]).getD i 0 = if i < n then xs.getD i 0 else if i = n then x else 0 := fun i => by
      rw [List.getD_eq_getElem?_getD, List.getD_eq_getElem?_getD]
      by_cases e : i < n
      · rw [if_pos e, List.getElem?_append_left (by omega)]
      · rw [if_neg e, List.getElem?_append_right (by omega), hl]
        by_cases e2 : i = n
        · rw [if_pos e2, e2, Nat.sub_self]; rfl
        · rw [if_neg e2]
          obtain ⟨k, hk⟩ : ∃ k, i - n = k + 1 := ⟨i - n - 1, by omega⟩
          rw [hk]; rfl
    refine ⟨xs ++ [x], by simp [hl], fun i => ?_, fun i hi => ?_⟩
    · rw [hg]
      by_cases e : i < n
      · rw [if_pos e]; exact hb i
      · rw [if_neg e]
        by_cases e2 : i = n
        · rw [if_pos e2]; exact hx1
        · rw [if_neg e2]; decide
    · rw [hg]
      by_cases e : i < n
      · rw [if_pos e]; exact hx i e
      · obtain rfl : i = n := by omega
        rw [if_neg e, if_pos rfl]
        exact h1

set_option maxRecDepth 100000 in
theorem open_bytesY {H : Type} {enc : TypeId × Value → H} {W : World} {v0 : Value} {d : DataW H} {p : List MemPlace} {b0 : Nat} {r : Reach} (hv : Value.okWide Tryd.prog W r b0 50 v0)
    (h : DataW.Trod enc Tryd.prog W 0 (fun _ => true) true 50 v0 d p) : ∃ ns : List Nat, SlY W v0 ns ∧ ns.length ≤ maxLen ∧ ∀ i, ns.getD i 0 < 256 := by
  obtain ⟨a0, l0, c0, rfl⟩ := okWide_slice Tryd.underlying50 hv
  obtain ⟨fuel, hf⟩ := h
  rcases open_slice1 Tryd.underlying50 (by kernel_rfl) hf with ⟨hcs, _⟩ | ⟨a, len, cap, m, n, V, D, Pl, hcs, _, hl, hm, hmm, _, hx⟩
  · simp [Value.cells] at hcs
    obtain ⟨rfl, rfl, rfl⟩ := hcs
    exact ⟨[], Or.inl ⟨none, 0, rfl, rfl⟩, by simp, fun i => by simp⟩
  · simp [Value.cells] at hcs
    obtain ⟨rfl, rfl, rfl⟩ := hcs
    have hm' : m = c0 := by simpa using hmm
    by_cases h0 : l0 = 0
    · subst h0
      exact ⟨[], Or.inl ⟨_, _, rfl, rfl⟩, by simp, fun i => by simp⟩
    · obtain ⟨b, off, spot⟩ := a
      have hc := (hx 0 (by omega)).1
      have hspot : spot = none := by simpa [Addr.add] using World.cell?_spot hc
      subst hspot
      have hblk : b < W.heap.size := blk_lt (o := off) (v := V 0) (by simpa [Addr.add] using hc)
      obtain ⟨xs, hlen, hb, hxs⟩ := bytes_some (w := W) (b := b) (off := off) (n := l0) (fun i hi => by
        obtain ⟨g0, t0⟩ := hx i (by omega)
        obtain ⟨n0, e0, _, hwf⟩ := DataW.trod_int Tryd.underlying5 t0
        simp only [List.cons.injEq, and_true] at e0
        rw [Addr.add_mid] at g0
        have hw2 : 0 ≤ n0 ∧ n0 < 256 := by
          simp only [Lit.wf, IntKind.min, IntKind.max, IntKind.signed, IntKind.bits, Bool.and_eq_true, decide_eq_true_eq] at hwf
          simp at hwf
          omega
        exact ⟨n0.toNat, by omega, by rw [g0, e0, Int.toNat_of_nonneg hw2.1]⟩)
      refine ⟨xs, Or.inr ⟨b, off, c0, by rw [hlen], by omega, hblk, fun i hi => hxs i (by omega)⟩, by omega, hb⟩
end Go.Proofs.YtnmnlbgialolhaaDoor

/- What frames share: the number of variables, the two cells of a spot. -/
namespace Go.Proofs.YtnmnlbgialolhaaDoor
open Go.ChangeShapes Go.WideShapes Go.ChangeAt Go.RowKit Go.Deep Go.WideElems
open Go.ChangeMaps (open_string shut_string)
set_option linter.unusedVariables false
set_option linter.unusedSimpArgs false
set_option maxRecDepth 100000

theorem vars_len {H : Type} {enc : TypeId × Value → H} {P : Program} {W : World} {sp : Nat → Bool} : ∀ {ns : List String} {gs : List (DataW H)} {q : List MemPlace}, DataW.TrodVars enc P W sp ns gs q → gs.length = ns.length
  | [], [], _, _ => rfl
  | [], _ :: _, _, h => h.elim
  | _ :: _, [], _, h => h.elim
  | _ :: _, _ :: _, _, ⟨_, _, _, _, _, _, _, _, _, _, hs, _⟩ => congrArg (· + 1) (vars_len hs)
theorem cellsI64W : Tryd.prog.cellsOf 2 = 1 := by kernel_rfl
theorem cellsSpotW : Tryd.prog.cellsOf 93 = 2 := by kernel_rfl
section
variable {H : Type} {enc : TypeId × Value → H} {W : World} {base : Nat} {spare : Nat → Bool} {held : Bool}
set_option maxRecDepth 100000 in
/-- the two cells of a spot that reads as two numbers -/
theorem spot_cells {n : Nat} {cs : List Value} {a b : Int} {ps : List MemPlace} (h : DataW.trod enc Tryd.prog W base spare held n 93 cs = some (.agg [.lit (.int .i64 a), .lit (.int .i64 b)], ps)) : cs = [.int .i64 a, .int .i64 b] := by
  obtain ⟨xs, m, _, hx, hl, hlen, hf⟩ := DataW.trod_struct Tryd.underlying93 h
  rw [cellsSpotW] at hl
  match cs, hl with
  | [c0, c1], _ =>
    match xs, hlen with
    | [y0, y1], _ =>
      have h0 := hf 0 _ rfl
      have h1 := hf 1 _ rfl
      simp [cellsI64W] at h0 h1
      obtain ⟨n0, e0, z0, _⟩ := DataW.trod_int Tryd.underlying2 h0
      obtain ⟨n1, e1, z1, _⟩ := DataW.trod_int Tryd.underlying2 h1
      simp at e0 e1
      subst e0 e1 z0 z1
      simp at hx
      rw [hx.1.1, hx.1.2]
end
end Go.Proofs.YtnmnlbgialolhaaDoor

/- What the frames of laws over corners of pictures share: the table of pixels on the right, and the error of work that is given up, as the row lays them. -/
namespace Go.Proofs.YtnmnlbgialolhaaDoor
open Go.ChangeShapes Go.WideShapes Go.ChangeAt Go.RowKit Go.Deep Go.WideElems
open Go.ChangeMaps (open_string shut_string)
set_option linter.unusedVariables false
set_option linter.unusedSimpArgs false
set_option maxRecDepth 100000

theorem gNor : Tryd.prog.globalNamed "loop.example/g01165/impl.errNoResult" = some 1 := by kernel_rfl
theorem tNor : (Tryd.prog.globals[1]?).map (·.type) = some 130 := by kernel_rfl
end Go.Proofs.YtnmnlbgialolhaaDoor
