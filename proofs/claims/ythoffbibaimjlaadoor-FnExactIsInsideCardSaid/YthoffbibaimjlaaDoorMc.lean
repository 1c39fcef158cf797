/- Contracts of single functions, and plain lemmas, on which the exact laws of this seat rest; each holds under the conditions that it states. -/
import Derived.Test.YthoffbibaimjlaaDoorBl
namespace Go.Proofs.YthoffbibaimjlaaDoor
set_option linter.unusedVariables false
open Go.RowKit

theorem setCells_block (g : Nat) (t : TypeId) : ∀ (cs : List Value) (o : Nat) (c : Array Value) (w : World), w.heap[g]? = some (.cells c t (0, 0)) → o + cs.length = c.size →
    (w.setCells g o cs).heap[g]? = some (.cells (c.toList.take o ++ cs).toArray t (0, 0))
  | [], o, c, w, h, hl => by
    unfold World.setCells
    rw [h, List.append_nil, List.take_of_length_le (by simp at hl; simp; omega)]
  | v :: r, o, c, w, h, hl => by
    have hl' : o + (r.length + 1) = c.size := hl
    unfold World.setCells
    rw [setCells_block g t r (o + 1) (c.setIfInBounds o v) _ (Joins.block_setCell h v) (by simp; omega)]
    have e : (c.setIfInBounds o v).toList.take (o + 1) ++ r = c.toList.take o ++ v :: r := by
      rw [Array.toList_setIfInBounds, List.take_add_one, List.take_set_of_le (by omega), List.getElem?_set_self (by simp; omega)]
      simp
    rw [e]
theorem setCells_far (g k : Nat) (hk : k ≠ g) : ∀ (cs : List Value) (o : Nat) (w : World), (w.setCells g o cs).heap[k]? = w.heap[k]?
  | [], _, _ => rfl
  | v :: r, o, w => by
    unfold World.setCells
    rw [setCells_far g k hk r (o + 1) _, Below.heap_setCell _ _ _ _ hk]
theorem setCells_rest (g : Nat) : ∀ (cs : List Value) (o : Nat) (w : World), (w.setCells g o cs).os = w.os ∧ (w.setCells g o cs).tape = w.tape ∧ (w.setCells g o cs).output = w.output ∧ (w.setCells g o cs).heap.size = w.heap.size
  | [], _, _ => ⟨rfl, rfl, rfl, rfl⟩
  | v :: r, o, w => by
    unfold World.setCells
    obtain ⟨a, b, c, d⟩ := setCells_rest g r (o + 1) (w.setCell ⟨g, o, none⟩ v)
    exact ⟨a, b, c, by rw [d]; simp [World.setCell]⟩

/-- three new blocks, the last one stored whole -/
theorem three_new (w : World) (A B C : Obj) (c : Array Value) (t : TypeId) (hC : C = .cells c t (0, 0)) (cs : List Value) (hl : cs.length = c.size) (W : World) (hW : W = (((w.alloc A).alloc B).alloc C).drew.setCells (w.heap.size + 1 + 1) 0 cs) :
    W.heap[w.heap.size]? = some A ∧ W.heap[w.heap.size + 1]? = some B ∧ W.heap[w.heap.size + 1 + 1]? = some (.cells cs.toArray t (0, 0)) ∧ Below w.heap.size w W ∧ W.heap.size = w.heap.size + 3 := by
  subst hC hW
  have h0 : ((((w.alloc A).alloc B).alloc (.cells c t (0, 0))).drew).heap[w.heap.size + 1 + 1]? = some (.cells c t (0, 0)) := by
    show (((w.alloc A).alloc B).alloc (.cells c t (0, 0))).heap[w.heap.size + 1 + 1]? = _
    have := heap_alloc_last ((w.alloc A).alloc B) (.cells c t (0, 0))
    simpa using this
  have h1 := setCells_block (w.heap.size + 1 + 1) t cs 0 c _ h0 (by omega)
  have hf : ∀ k, k < w.heap.size + 1 + 1 → ((((w.alloc A).alloc B).alloc (.cells c t (0, 0))).drew.setCells (w.heap.size + 1 + 1) 0 cs).heap[k]? = ((w.alloc A).alloc B).heap[k]? := fun k hk => by
    rw [setCells_far _ _ (by omega)]
    exact Below.heap_alloc _ _ _ (by simpa using hk)
  obtain ⟨r1, r2, r3, r4⟩ := setCells_rest (w.heap.size + 1 + 1) cs 0 ((((w.alloc A).alloc B).alloc (.cells c t (0, 0))).drew)
  have hs : ((((w.alloc A).alloc B).alloc (.cells c t (0, 0))).drew).heap.size = w.heap.size + 3 := by show (((w.alloc A).alloc B).alloc (.cells c t (0, 0))).heap.size = _; simp
  refine ⟨?_, ?_, ?_, ⟨r1, r2, r3, by rw [r4, hs]; omega, fun k hk => ?_⟩, by rw [r4, hs]⟩
  · rw [hf _ (by omega), heap_alloc2_old]
  · rw [hf _ (by omega), heap_alloc2_new]
  · rw [h1]; simp
  · rw [hf _ (by omega), Below.heap_alloc _ _ _ (by simp; omega), Below.heap_alloc _ _ _ hk]

theorem three_cell (w : World) (A B C : Obj) (b o : Nat) (hb : b < w.heap.size) : (((w.alloc A).alloc B).alloc C).drew.cell? ⟨b, o, none⟩ = w.cell? ⟨b, o, none⟩ :=
  World.cell?_of_block (w := w) (by show (((w.alloc A).alloc B).alloc C).heap[b]? = _; rw [Below.heap_alloc _ _ _ (by simp; omega), Below.heap_alloc _ _ _ (by simp; omega), Below.heap_alloc _ _ _ hb])
theorem three_cell' (w : World) (A B C : Obj) (cs : List Value) (b o : Nat) (hb : b < w.heap.size) : ((((w.alloc A).alloc B).alloc C).drew.setCells (w.heap.size + 1 + 1) 0 cs).cell? ⟨b, o, none⟩ = w.cell? ⟨b, o, none⟩ :=
  (World.cell?_of_block (w := (((w.alloc A).alloc B).alloc C).drew) (setCells_far _ _ (by show b ≠ _; omega) cs 0 _)).trans (three_cell w A B C b o hb)
theorem three_first (w : World) (v : Value) (t : TypeId) (B C : Obj) : (((w.alloc (.cells #[v] t)).alloc B).alloc C).drew.cell? ⟨w.heap.size, 0, none⟩ = some v := by
  refine (World.cell?_of_block (w := w.alloc (.cells #[v] t)) ?_).trans (by rw [World.cell?_alloc_mark]; rfl)
  show (((w.alloc (.cells #[v] t)).alloc B).alloc C).heap[w.heap.size]? = _
  rw [Below.heap_alloc _ _ _ (by simp; omega), Below.heap_alloc _ _ _ (by simp)]
theorem three_first' (w : World) (v : Value) (t : TypeId) (B C : Obj) (cs : List Value) : ((((w.alloc (.cells #[v] t)).alloc B).alloc C).drew.setCells (w.heap.size + 1 + 1) 0 cs).cell? ⟨w.heap.size, 0, none⟩ = some v :=
  (World.cell?_of_block (w := (((w.alloc (.cells #[v] t)).alloc B).alloc C).drew) (setCells_far _ _ (by show w.heap.size ≠ w.heap.size + 1 + 1; omega) cs 0 _)).trans (three_first w v t B C)

theorem three_now (w : World) (A B C : Obj) (W : World) (hW : (((w.alloc A).alloc B).alloc C).drew = W) :
    W.heap[w.heap.size + 1]? = some B ∧ W.heap[w.heap.size + 1 + 1]? = some C ∧ Below w.heap.size w W ∧ W.heap.size = w.heap.size + 3 ∧ W.heap[w.heap.size]? = some A := by
  subst hW
  have hs : ((((w.alloc A).alloc B).alloc C).drew).heap.size = w.heap.size + 3 := by show (((w.alloc A).alloc B).alloc C).heap.size = _; simp
  refine ⟨?_, ?_, ⟨rfl, rfl, rfl, by rw [hs]; omega, fun k hk => ?_⟩, hs, ?_⟩
  · show (((w.alloc A).alloc B).alloc C).heap[w.heap.size + 1]? = _
    rw [Below.heap_alloc _ _ _ (by simp), heap_alloc2_new]
  · have := heap_alloc_last ((w.alloc A).alloc B) C
    simp only [World.size_alloc] at this
    exact this
  · show (((w.alloc A).alloc B).alloc C).heap[k]? = _
    rw [Below.heap_alloc _ _ _ (by simp; omega), Below.heap_alloc _ _ _ (by simp; omega), Below.heap_alloc _ _ _ hk]
  · show (((w.alloc A).alloc B).alloc C).heap[w.heap.size]? = _
    rw [Below.heap_alloc _ _ _ (by simp; omega), heap_alloc2_old]

theorem setRow_below {B : Nat} {w0 w : World} {g : Nat} (h : Below B w0 w) (hB : B ≤ g) (cs : Array Value) : Below B w0 (w.setRow g cs) :=
  h.trans ⟨rfl, rfl, rfl, by simp, fun k hk => setRow_other w g k cs (by omega)⟩

theorem row_size_no {ss : List ByteArray} {k : Nat} (hk : k < ss.length) (h : ¬ (goodRow (ss.getD k ByteArray.empty) ∧ (ss.getD k ByteArray.empty).size = (row0 ss).size)) : validB ss = false := by
  by_cases he : (ss.getD k ByteArray.empty).size = (row0 ss).size
  · have hg : ¬ goodRow (ss.getD k ByteArray.empty) := fun hh => h ⟨hh, he⟩
    by_cases hw : (row0 ss).size < 1 ∨ 16 < (row0 ss).size
    · exact valid_no_wd hw
    · refine valid_no_row hk ?_
      unfold rowB
      have : (ss.getD k ByteArray.empty).data.toList.all pixB = false := by
        cases hh : (ss.getD k ByteArray.empty).data.toList.all pixB with
        | false => rfl
        | true =>
          exfalso
          refine hg ⟨by omega, by omega, fun j hj => ?_⟩
          rw [List.all_eq_true] at hh
          exact hh _ (Array.mem_toList_iff.2 (Array.getElem_mem _))
      rw [this]; simp
  · refine valid_no_row hk ?_
    unfold rowB
    rw [decide_eq_false he, Bool.false_and]

theorem row_size_yes {ss : List ByteArray} (h1 : 1 ≤ ss.length) (h2 : ss.length ≤ 16) (h : ∀ j, j < ss.length → goodRow (ss.getD j ByteArray.empty) ∧ (ss.getD j ByteArray.empty).size = (row0 ss).size) : validB ss = true := by
  have h0 := (h 0 (by omega)).1
  refine valid_yes h1 h2 h0.1 h0.2.1 (fun j hj => ?_)
  have := h j hj
  unfold rowB
  rw [pix_all this.1.2.2, decide_eq_true this.2, Bool.and_self]

def zeros : Array Value := mcells 0 0 (fun _ => 0)
def wordsTo (ss : List ByteArray) (y j : Nat) : Nat := if j < y then rowWord (ss.getD j ByteArray.empty) else 0
theorem wordsTo_zero (ss : List ByteArray) (a b : Nat) : mat a b (wordsTo ss 0) = mcells a b (fun _ => 0) := by
  unfold mat; exact mcells_congr _ _ (fun j _ => by simp [wordsTo])
theorem wordsTo_set (ss : List ByteArray) (a b y : Nat) (hy : y < 16) : (mat a b (wordsTo ss y)).setIfInBounds (2 + y) (.int .u32 (rowWord (ss.getD y ByteArray.empty))) = mat a b (wordsTo ss (y + 1)) := by
  unfold mat
  rw [mcells_set _ _ _ y hy]
  refine mcells_congr _ _ (fun j _ => ?_)
  unfold wordsTo
  by_cases h : j = y
  · subst h; simp
  · by_cases h2 : j < y
    · simp [h, h2, show j < y + 1 from by omega]
    · simp [h, h2, show ¬ j < y + 1 from by omega]
theorem mat_size (a b : Nat) (g : Nat → Nat) : (mat a b g).size = 18 := rfl
theorem mat_one (a b : Nat) (g : Nat → Nat) : (mat a b g).all (·.oneCell') = true := mcells_one _ _ _
theorem mat_cell0 (a b : Nat) (g : Nat → Nat) : (mat a b g)[0]? = some (.int .i64 a) := rfl
theorem mat_cell1 (a b : Nat) (g : Nat → Nat) : (mat a b g)[1]? = some (.int .i64 b) := rfl
theorem mat_word (a b : Nat) (g : Nat → Nat) (j : Nat) (h : j < 16) : (mat a b g)[2 + j]? = some (.int .u32 (g j)) := mcells_word _ _ _ j h
theorem zeros_size : zeros.size = 18 := rfl

def wordsOf (ss : List ByteArray) (j : Nat) : Nat := if j < ss.length then rowWord (ss.getD j ByteArray.empty) else 0
/-- the matrix of rows -/
def matC (ss : List ByteArray) : Array Value := if validB ss = true then mat (row0 ss).size ss.length (wordsOf ss) else zeros
theorem matC_size (ss : List ByteArray) : (matC ss).size = 18 := by unfold matC; split <;> rfl
theorem matC_one (ss : List ByteArray) : (matC ss).all (·.oneCell') = true := by
  unfold matC; split
  · exact mcells_one _ _ _
  · exact mcells_one _ _ _
theorem matC_yes {ss : List ByteArray} (h : validB ss = true) : matC ss = mat (row0 ss).size ss.length (wordsOf ss) := by unfold matC; rw [if_pos h]
theorem matC_no {ss : List ByteArray} (h : validB ss = false) : matC ss = zeros := by unfold matC; rw [h]; rfl
/-- what matrixOf hands back -/
def MatOf (ss : List ByteArray) (w : World) (e : Ending) (w' : World) : Prop :=
  e = .returned (.tuple #[.agg (matC ss), .bool (validB ss)]) ∧ Below w.heap.size w w'

end Go.Proofs.YthoffbibaimjlaaDoor
