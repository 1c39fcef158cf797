/- Contracts of single functions, and plain lemmas, on which the exact laws of this seat rest; each holds under the conditions that it states. -/
import Derived.Test.YtnmnlbgialolhaaDoorPb
import Derived.Deep.MidRow
import Derived.Deep.RegionHeld3
namespace Go.Proofs.YtnmnlbgialolhaaDoor
set_option linter.unusedVariables false
set_option linter.unusedSimpArgs false
open Go.RowKit

theorem setRow_alloc_under (w : World) (c c' : Array Value) (t : TypeId) (X : Obj) : ((w.alloc (.cells c t)).alloc X).setRow w.heap.size c' = (w.alloc (.cells c' t)).alloc X := by
  simp only [World.setRow, World.alloc]
  congr 1
  apply Array.ext_getElem?
  intro i
  rw [Array.getElem?_modify]
  by_cases h : w.heap.size = i
  · subst h
    simp [Array.getElem?_push]
  · have h' : ¬ i = w.heap.size := fun e => h e.symm
    simp [h, h', Array.getElem?_push]

section
variable {P : Program} {ops : Array Oper} {rest : List Oper} {o : Oper} {a : Act} {Q : Exit → Act → World → Prop}
/-- a whole row is stored into the block that was made last but one -/
theorem wpList_store_under (w1 : World) (X : Obj) (hgd : o.guard = none) (ty : TypeId) (x y : Operand) (ho : o.op = .store ty x y)
    (cells : Array Value) (hx : a.eval x = .pointer (some ⟨w1.heap.size, 0, none⟩)) (hy : a.eval y = .agg cells)
    (t : TypeId) (old : Array Value) (hi : (P.info? ty).map (·.size) = some cells.size)
    (hold : old.size = cells.size) (h1 : cells.all (·.oneCell') = true)
    (h : wpList P ops Q rest (a.put o.dst undef) ((w1.alloc (.cells cells t)).alloc X)) : wpList P ops Q (o :: rest) a ((w1.alloc (.cells old t)).alloc X) :=
  wpList_store_row hgd ty x y ho w1.heap.size cells hx hy t old (by rw [Below.heap_alloc _ _ _ (by simp)]; exact heap_alloc_last w1 _) hi hold h1 (by rw [setRow_alloc_under]; exact h)
end

/-- two structs in variables, and one thing more, handed back -/
theorem results_cell2_tmp {P : Program} {fn : Func} {p p2 q : Tmp} {ty : TypeId} (h : fn.results = #[.cell p ty, .cell p2 ty, .tmp q]) (tmps : Array Value) (w : World) (g g2 : Nat) (t t2 : TypeId) (cs cs2 : Array Value) (fr fr2 : Nat × Nat) (d : TypeDesc)
    (hp : tmps.getD p undef = .pointer (some ⟨g, 0, none⟩)) (hg : w.heap[g]? = some (.cells cs t fr))
    (hp2 : tmps.getD p2 undef = .pointer (some ⟨g2, 0, none⟩)) (hg2 : w.heap[g2]? = some (.cells cs2 t2 fr2))
    (hu : P.underlying ty = some d) (hd : (match d with | .struct _ | .array _ _ => true | _ => false) = true) (hi : (P.info? ty).map (·.size) = some cs.size) (hi2 : (P.info? ty).map (·.size) = some cs2.size) :
    (results fn tmps).run P w = .ok (.tuple #[.agg cs, .agg cs2, tmps.getD q undef]) w := by
  have hp' : tmps[p]?.getD undef = .pointer (some ⟨g, 0, none⟩) := by simpa using hp
  have hp2' : tmps[p2]?.getD undef = .pointer (some ⟨g2, 0, none⟩) := by simpa using hp2
  simp [results, h, hp', hp2', asAddr, run_loadVar_row w g t ty cs fr d hg hu hd hi, run_loadVar_row w g2 t2 ty cs2 fr2 d hg2 hu hd hi2]

/-- two pictures are valid and of one size -/
def likeB (ss tt : List ByteArray) : Bool := validB ss && validB tt && decide ((row0 ss).size = (row0 tt).size) && decide (ss.length = tt.length)
def MatsOf (ss tt : List ByteArray) (w : World) (e : Ending) (w' : World) : Prop :=
  e = .returned (.tuple #[.agg (if likeB ss tt then matC ss else zeros), .agg (if likeB ss tt then matC tt else zeros), .bool (likeB ss tt)]) ∧ Below w.heap.size w w'

theorem range_of_block {W : World} {g : Nat} {C : Array Value} {t : TypeId} (h : W.heap[g]? = some (.cells C t (0, 0))) : W.rangeAt g 0 C.toList := fun j v hv => by
  rw [Nat.zero_add, Joins.cell_of_block h j]
  simpa using hv
theorem there_of_block {W : World} {g : Nat} {C : Array Value} {t : TypeId} (h : W.heap[g]? = some (.cells C t (0, 0))) (hs : C.size = 18) : W.there g 0 18 := fun j hj => by
  rw [Joins.cell_of_block h, Joins.unfrozen_of_block h, Nat.zero_add]
  exact ⟨by rw [Array.getElem?_eq_getElem (by omega)]; rfl, rfl⟩

end Go.Proofs.YtnmnlbgialolhaaDoor

/- Contracts of single functions, and plain lemmas, on which the exact laws of this seat rest; each holds under the conditions that it states. -/
namespace Go.Proofs.YtnmnlbgialolhaaDoor
set_option linter.unusedVariables false
open Go.RowKit

theorem ret_b {a b : Bool} (h : a = b) : Ending.returned (.bool a) = .returned (.bool b) := by rw [h]

end Go.Proofs.YtnmnlbgialolhaaDoor

/- Contracts of single functions, and plain lemmas, on which the exact laws of this seat rest; each holds under the conditions that it states. -/
namespace Go.Proofs.YtnmnlbgialolhaaDoor
set_option linter.unusedVariables false
open Go.RowKit

/-- what is true in one list is true in the other one -/
def subB (xs ys : List Bool) : Bool := (List.range xs.length).all fun i => !(xs.getD i false && !ys.getD i false)
theorem subB_no {xs ys : List Bool} {i : Nat} (hi : i < xs.length) (h1 : xs.getD i false = true) (h2 : ys.getD i false = false) : subB xs ys = false := by
  unfold subB
  rw [List.all_eq_false]
  exact ⟨i, List.mem_range.2 hi, by rw [h1, h2]; decide⟩
theorem subB_yes {xs ys : List Bool} (h : ∀ i, i < xs.length → (xs.getD i false = true → ys.getD i false = true)) : subB xs ys = true := by
  unfold subB
  rw [List.all_eq_true]
  intro i hi
  have := h i (List.mem_range.1 hi)
  cases hx : xs.getD i false with
  | false => rfl
  | true => rw [this hx]; rfl

/-- one picture is inside the other one -/
def insideP (ss tt : List ByteArray) : Bool := likeB ss tt && subB (pixL ss (row0 ss).size ((row0 ss).size * ss.length)) (pixL tt (row0 ss).size ((row0 ss).size * ss.length))

end Go.Proofs.YtnmnlbgialolhaaDoor
