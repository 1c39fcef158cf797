/- Contracts of single functions, and plain lemmas, on which the exact laws of this seat rest; each holds under the conditions that it states. -/
import Derived.Test.YthblhibkbcmbaaaDoorGB
import Derived.Test.YthblhibkbcmbaaaDoorBl
import Derived.BigQuiet
import Derived.Test.YthblhibkbcmbaaaDoorR1
namespace Go.Proofs.YthblhibkbcmbaaaDoor
set_option linter.unusedVariables false
set_option linter.unusedSimpArgs false
open Go.RowKit

/-! ### which rows are those of a grey picture -/
/-- a row with numbers up to m alone -/
def numsB (m : Int) (ns : List Int) : Bool := ns.all fun x => inB x 0 m
/-- the first k rows are as long as the first one and have such numbers -/
def rowsB (m : Int) (gs : List (List Int)) (k : Nat) : Bool := (List.range k).all fun i => decide ((rowF gs i).length = (rowF gs 0).length) && numsB m (rowF gs i)
def vG (m : Int) (gs : List (List Int)) : Bool := inB (gs.length : Int) 1 16 && inB ((rowF gs 0).length : Int) 1 16 && rowsB m gs gs.length
theorem rowsB_bad {m : Int} {gs : List (List Int)} {i : Nat} (hi : i < gs.length) (h : (rowF gs i).length ≠ (rowF gs 0).length ∨ numsB m (rowF gs i) = false) : vG m gs = false := by
  have : rowsB m gs gs.length = false := by
    unfold rowsB
    rw [List.all_eq_false]
    refine ⟨i, List.mem_range.2 hi, ?_⟩
    rcases h with h | h
    · rw [decide_eq_false h]; simp
    · rw [h]; simp
  unfold vG
  rw [this, Bool.and_false]
theorem numsB_bad {m : Int} {ns : List Int} {j : Nat} (hj : j < ns.length) (h : inB (ns.getD j 0) 0 m = false) : numsB m ns = false := by
  unfold numsB
  rw [List.all_eq_false]
  refine ⟨ns.getD j 0, ?_, by rw [h]; simp⟩
  rw [List.getD_eq_getElem?_getD, List.getElem?_eq_getElem hj]
  exact List.getElem_mem hj
theorem numsB_good {m : Int} {ns : List Int} (h : ∀ j, j < ns.length → inB (ns.getD j 0) 0 m = true) : numsB m ns = true := by
  unfold numsB
  rw [List.all_eq_true]
  intro x hx
  obtain ⟨j, hj, rfl⟩ := List.getElem_of_mem hx
  have := h j hj
  rwa [List.getD_eq_getElem?_getD, List.getElem?_eq_getElem hj] at this
theorem rowsB_good {m : Int} {gs : List (List Int)} (h : ∀ i, i < gs.length → (rowF gs i).length = (rowF gs 0).length ∧ numsB m (rowF gs i) = true) : rowsB m gs gs.length = true := by
  unfold rowsB
  rw [List.all_eq_true]
  intro i hi
  have := h i (List.mem_range.1 hi)
  rw [decide_eq_true this.1, this.2]
  rfl
/-- what a valid one has -/
structure VG (m : Int) (gs : List (List Int)) : Prop where
  n1 : 1 ≤ gs.length
  n16 : gs.length ≤ 16
  w1 : 1 ≤ (rowF gs 0).length
  w16 : (rowF gs 0).length ≤ 16
  len : ∀ i, i < gs.length → (rowF gs i).length = (rowF gs 0).length
  num : ∀ i, i < gs.length → ∀ j, j < (rowF gs 0).length → 0 ≤ (rowF gs i).getD j 0 ∧ (rowF gs i).getD j 0 ≤ m
theorem vg_of {m : Int} {gs : List (List Int)} (h : vG m gs = true) : VG m gs := by
  unfold vG inB at h
  simp only [Bool.and_eq_true, decide_eq_true_eq] at h
  obtain ⟨⟨⟨a, b⟩, c, d⟩, e⟩ := h
  unfold rowsB at e
  rw [List.all_eq_true] at e
  have hl : ∀ i, i < gs.length → (rowF gs i).length = (rowF gs 0).length := fun i hi => by
    have := e i (List.mem_range.2 hi)
    rw [Bool.and_eq_true] at this
    exact of_decide_eq_true this.1
  refine ⟨by omega, by omega, by omega, by omega, hl, fun i hi j hj => ?_⟩
  have := e i (List.mem_range.2 hi)
  rw [Bool.and_eq_true] at this
  have h2 := this.2
  unfold numsB at h2
  rw [List.all_eq_true] at h2
  have hj' : j < (rowF gs i).length := by rw [hl i hi]; exact hj
  have h3 := h2 ((rowF gs i)[j]) (List.getElem_mem hj')
  rw [List.getD_eq_getElem?_getD, List.getElem?_eq_getElem hj']
  unfold inB at h3
  simpa using h3

/-- a row of rows opened: each row's cell, and its numbers -/
theorem SlG.open' {W : World} {v : Value} {gs : List (List Int)} (h : SlG W v gs) : ∃ (ao : Option Addr) (cap : Nat), v = .slice ao gs.length cap ∧
    (0 < gs.length → ∃ b off, ao = some ⟨b, off, none⟩ ∧ b < W.heap.size ∧ ∀ i, i < gs.length → ∃ (ay : Option Addr) (cy : Nat), W.cell? ⟨b, off + i, none⟩ = some (.slice ay (rowF gs i).length cy) ∧ SlN W (.slice ay (rowF gs i).length cy) (rowF gs i) ∧
      (0 < (rowF gs i).length → ∃ b2 o2, ay = some ⟨b2, o2, none⟩ ∧ b2 < W.heap.size ∧ ∀ j, j < (rowF gs i).length → W.cell? ⟨b2, o2 + j, none⟩ = some (.int .i64 ((rowF gs i).getD j 0)))) := by
  rcases h with ⟨ao, cap, rfl, h0⟩ | ⟨b, off, cap, us, rfl, hpos, hb, hc⟩
  · exact ⟨ao, cap, by rw [h0], fun h => by omega⟩
  · refine ⟨_, cap, rfl, fun _ => ⟨b, off, rfl, hb, fun i hi => ?_⟩⟩
    obtain ⟨h1, h2⟩ := hc i hi
    obtain ⟨ay, cy, e⟩ := h2.form
    rw [e] at h1 h2
    refine ⟨ay, cy, h1, h2, fun hp => ?_⟩
    rcases h2 with ⟨ao2, cap2, e2, h0⟩ | ⟨b2, o2, cap2, e2, _, hb2, hc2⟩
    · rw [h0] at hp; simp at hp
    · injection e2 with e3 e4 e5
      exact ⟨b2, o2, e3, hb2, hc2⟩

end Go.Proofs.YthblhibkbcmbaaaDoor

/- Contracts of single functions, and plain lemmas, on which the exact laws of this seat rest; each holds under the conditions that it states. -/
namespace Go.Proofs.YthblhibkbcmbaaaDoor
set_option linter.unusedVariables false
open Go.RowKit

theorem isSide_any (n : Int) (w : World) : Calls Tryd.prog 60 #[.int .i64 n] w fun e w' => e = .returned (.bool (inB n 1 16)) ∧ w = w' := by
  by_cases h1 : 1 ≤ n
  · have e2 : Hid (inB n 1 16 = decide (n ≤ 16)) := by
      show inB n 1 16 = _
      simp [inB, h1]
    go_enter Tryd.func60, Tryd.ntmps60
    go_wp2
    go_ret
    exact ⟨ret_bool e2.out.symm, rfl⟩
  · have e2 : Hid (inB n 1 16 = false) := by
      show inB n 1 16 = _
      simp [inB, h1]
    go_enter Tryd.func60, Tryd.ntmps60
    go_wp2
    go_ret
    exact ⟨ret_bool (a := false) e2.out.symm, rfl⟩

/-! ### has, black: the matrix's cells are a variable C -/
end Go.Proofs.YthblhibkbcmbaaaDoor

/- Contracts of single functions, and plain lemmas, on which the exact laws of this seat rest; each holds under the conditions that it states. -/
namespace Go.Proofs.YthblhibkbcmbaaaDoor
set_option linter.unusedVariables false
set_option linter.unusedSimpArgs false
open Go.RowKit

/-! ### the least and the greatest number of a row -/
def mnK (ns : List Int) : Nat → Int
  | 0 => ns.getD 0 0
  | k + 1 => min (mnK ns k) (ns.getD k 0)
def mxK (ns : List Int) : Nat → Int
  | 0 => ns.getD 0 0
  | k + 1 => max (mxK ns k) (ns.getD k 0)
theorem mnK_ge (ns : List Int) (z : Int) : ∀ k, z ≤ mnK ns k ↔ z ≤ ns.getD 0 0 ∧ ∀ j, j < k → z ≤ ns.getD j 0
  | 0 => by simp [mnK]
  | k + 1 => by
    show z ≤ min (mnK ns k) (ns.getD k 0) ↔ _
    have ih := mnK_ge ns z k
    constructor
    · intro h
      have h1 : z ≤ mnK ns k := by omega
      have h2 : z ≤ ns.getD k 0 := by omega
      refine ⟨(ih.1 h1).1, fun j hj => ?_⟩
      by_cases e : j = k
      · rw [e]; exact h2
      · exact (ih.1 h1).2 j (by omega)
    · rintro ⟨h1, h2⟩
      have h3 := ih.2 ⟨h1, fun j hj => h2 j (by omega)⟩
      have h4 := h2 k (by omega)
      omega
theorem mxK_le (ns : List Int) (z : Int) : ∀ k, mxK ns k ≤ z ↔ ns.getD 0 0 ≤ z ∧ ∀ j, j < k → ns.getD j 0 ≤ z
  | 0 => by simp [mxK]
  | k + 1 => by
    show max (mxK ns k) (ns.getD k 0) ≤ z ↔ _
    have ih := mxK_le ns z k
    constructor
    · intro h
      have h1 : mxK ns k ≤ z := by omega
      have h2 : ns.getD k 0 ≤ z := by omega
      refine ⟨(ih.1 h1).1, fun j hj => ?_⟩
      by_cases e : j = k
      · rw [e]; exact h2
      · exact (ih.1 h1).2 j (by omega)
    · rintro ⟨h1, h2⟩
      have h3 := ih.2 ⟨h1, fun j hj => h2 j (by omega)⟩
      have h4 := h2 k (by omega)
      omega
theorem numsB_mm {ns : List Int} (m : Int) (h : 0 < ns.length) : numsB m ns = (decide (0 ≤ mnK ns ns.length) && decide (mxK ns ns.length ≤ m)) := by
  rw [Bool.eq_iff_iff, Bool.and_eq_true, decide_eq_true_eq, decide_eq_true_eq, mnK_ge, mxK_le]
  constructor
  · intro hh
    have key : ∀ j, j < ns.length → 0 ≤ ns.getD j 0 ∧ ns.getD j 0 ≤ m := fun j hj => by
      cases hb : inB (ns.getD j 0) 0 m with
      | false => rw [numsB_bad hj hb] at hh; cases hh
      | true => unfold inB at hb; simpa using hb
    exact ⟨⟨(key 0 h).1, fun j hj => (key j hj).1⟩, (key 0 h).2, fun j hj => (key j hj).2⟩
  · rintro ⟨⟨_, h1⟩, _, h2⟩
    exact numsB_good fun j hj => inB_yes (h1 j hj) (h2 j hj)

end Go.Proofs.YthblhibkbcmbaaaDoor
