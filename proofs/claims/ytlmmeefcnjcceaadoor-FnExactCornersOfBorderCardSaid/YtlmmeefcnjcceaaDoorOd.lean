/- Contracts of single functions, and plain lemmas, on which the exact laws of this seat rest; each holds under the conditions that it states. -/
import Derived.Test.YtlmmeefcnjcceaaDoorOc
import Derived.Maps.Views
import Derived.Maps.OwnOps
import Derived.DeepKeys4
namespace Go.Proofs.YtlmmeefcnjcceaaDoor
set_option linter.unusedVariables false
set_option linter.unusedSimpArgs false
open Go.RowKit Go.Maps

/-! ### a set of values that the call keeps in a map to bools -/
section
variable {P : Program} {k e t : TypeId}
/-- block b is a map of at most n entries; what stands at a key is whether the set has it -/
def SetIn (P : Program) (k e : TypeId) (w : World) (b n : Nat) (has : Value → Bool) : Prop :=
  ∃ D : DataW Unit, w.ownsMap P k (plainElem P e) b n D ∧ IsMap D ∧ ∀ v kl, keyOf P k v = some kl → D.atKey kl (.lit (.bool false)) = .lit (.bool (has v))
theorem SetIn.made (w : World) : SetIn P k e (w.alloc (.map #[] 0)) w.heap.size 0 (fun _ => false) :=
  ⟨_, World.ownsMap_made w P k _, isMap_empty, fun _ _ _ => rfl⟩
theorem SetIn.lt {w : World} {b n : Nat} {has : Value → Bool} (h : SetIn P k e w b n has) : b < w.heap.size := by
  obtain ⟨D, h1, _⟩ := h; exact h1.lt
theorem SetIn.block {w w' : World} {b n : Nat} {has : Value → Bool} (h : SetIn P k e w b n has) (hb : w'.heap[b]? = w.heap[b]?) : SetIn P k e w' b n has := by
  obtain ⟨D, ⟨es, clock, h1, h2⟩, h3⟩ := h
  exact ⟨D, ⟨es, clock, hb.trans h1, h2⟩, h3⟩
theorem SetIn.below {w w' : World} {b n : Nat} {has : Value → Bool} (h : SetIn P k e w b n has) (hb : Below w.heap.size w w') : SetIn P k e w' b n has :=
  h.block (hb.block b h.lt)
theorem SetIn.look {w : World} {b n : Nat} {has : Value → Bool} (h : SetIn P k e w b n has) (K : Keyed P k) (ht : P.underlying t = some (.map k e)) (he : P.underlying e = some .bool) (hz : (zeroValue e).run P w = .ok (.bool false) w)
    {key : Value} {kl : Lit} (hkey : keyOf P k key = some kl) : (Instr.lookup t (.map (some b)) key false).run P w = .ok (.bool (has key)) w := by
  obtain ⟨D, h1, _, h3⟩ := h
  obtain ⟨v, ps, hrun, hv⟩ := h1.lookup K ht hz (plainElem_bool he false) hkey
  rw [h3 _ _ hkey] at hv
  have : v = .bool (has key) := by
    unfold plainElem at hv
    rw [he] at hv
    cases v <;> simp at hv
    rw [hv.1]
  rw [this] at hrun
  exact hrun
/-- a key is put into the set -/
theorem wpList_put_set {w : World} {ops : Array Oper} {rest : List Oper} {o : Oper} {a : Act} {Q : Exit → Act → World → Prop}
    (hg : o.guard = none) (m x v : Operand) (hop : o.op = Op.mapUpdate t m x v)
    (K : Keyed P k) (ht : P.underlying t = some (.map k e)) (he : P.underlying e = some .bool) (b n : Nat) (has : Value → Bool)
    (hm : a.eval m = .map (some b)) (hs : SetIn P k e w b n has) (hn : n < maxLen) (key : Value) (kl : Lit) (hx : a.eval x = key) (hv : a.eval v = .bool true) (hkey : keyOf P k key = some kl)
    (hK : ∀ w', SetIn P k e w' b (n + 1) (fun u => @decide (u = key) (Classical.propDecidable _) || has u) → w.grownBy w' (some b) → wpList P ops Q rest (a.put o.dst undef) w') :
    wpList P ops Q (o :: rest) a w := by
  obtain ⟨D, h1, h2, h3⟩ := hs
  refine wpList_mapUpdate_own w hg m x v t hop k e K ht (plainElem P e) b n D hm h1 hn key (.bool true) kl hx hv hkey (.lit (.bool true)) [] (plainElem_bool he true) fun w' ho hgr => hK w' ⟨_, ho, h2.put _ _, fun u ul hu => ?_⟩ hgr
  by_cases hc : ul = kl
  · subst hc
    have : u = key := K.inj hu hkey
    subst this
    rw [atKey_put_same h2 (K.key hkey)]
    simp
  · rw [atKey_put_other hc, h3 _ _ hu]
    have : ¬ u = key := fun h => hc (by rw [h] at hu; exact Option.some.inj (hu.symm.trans hkey))
    have e1 : @decide (u = key) (Classical.propDecidable _) = false := @decide_eq_false _ (Classical.propDecidable _) this
    show _ = DataW.lit (Lit.bool (@decide (u = key) (Classical.propDecidable _) || has u))
    rw [e1, Bool.false_or]
end

theorem laidOutM : laidOutB Tryd.prog = true := by kernel_rfl
theorem wideStep : (match Tryd.prog.underlying 67 with | some (.array _ _) | some (.struct _) => true | _ => false) = true := by rw [Tryd.underlying67]
set_option maxRecDepth 100000 in
theorem lawStep : Keyed Tryd.prog 67 := Keyed.of_law (deep_law_laid laidOutM (m := 4) (by omega) (of_decide_eq_true (by kernel_rfl)) (by kernel_rfl) wideStep)
theorem zeroBool (w : World) : (zeroValue 4).run Tryd.prog w = .ok (.bool false) w := by kernel_rfl
/-- a step as a value -/
def stV (x y d : Int) : Value := .agg #[.int .i64 x, .int .i64 y, .int .i64 d]
theorem cellsStep : Tryd.prog.cellsOf 67 = 3 := by kernel_rfl
theorem cellsSpot : Tryd.prog.cellsOf 28 = 2 := by kernel_rfl
theorem cellsI64 : Tryd.prog.cellsOf 2 = 1 := by kernel_rfl
theorem cellsDir : Tryd.prog.cellsOf 65 = 1 := by kernel_rfl
theorem keyTypeStep : Tryd.prog.keyType 67 = true := by kernel_rfl
theorem manyTypes : 4 ≤ Tryd.prog.types.size := of_decide_eq_true (by kernel_rfl)
theorem keyStep (x y d : Int) (hx : (Lit.int .i64 x).wf = true) (hy : (Lit.int .i64 y).wf = true) (hd : (Lit.int .i64 d).wf = true) : ∃ kl, keyOf Tryd.prog 67 (stV x y d) = some kl := by
  refine ⟨.string (keyBytes [.int .i64 x, .int .i64 y, .int .i64 d]), ?_⟩
  have h2 : (stV x y d).formed Tryd.prog 67 = true := by simp [Value.formed, stV, Tryd.underlying67, cellsStep]
  obtain ⟨m, hm⟩ : ∃ m, Tryd.prog.types.size + 1 = m + 5 := ⟨Tryd.prog.types.size - 4, by have := manyTypes; omega⟩
  have h3 : Tryd.prog.keyLits (Tryd.prog.types.size + 1) 67 (stV x y d).cells.toList = some [.int .i64 x, .int .i64 y, .int .i64 d] := by
    rw [hm]
    simp [Program.keyLits, stV, Value.cells, Tryd.underlying67, Tryd.underlying28, Tryd.underlying2, Tryd.underlying65, cellsStep, cellsSpot, cellsI64, cellsDir, hx, hy, hd]
    rw [if_pos (by intro i hi; rcases (by omega : i = 0 ∨ i = 1) with rfl | rfl <;> simp)]
    rfl
  unfold keyOf
  rw [Tryd.underlying67]
  simp only [keyTypeStep, h2, Bool.and_self, if_true, h3, Option.map_some]
end Go.Proofs.YtlmmeefcnjcceaaDoor
