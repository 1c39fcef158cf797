/- Contracts of single functions, and plain lemmas, on which the exact laws of this seat rest; each holds under the conditions that it states. -/
import Derived.Test.YthoffbibaimjlaaDoorSp
import Derived.Test.YthoffbibaimjlaaDoorLt
import Derived.Test.YthoffbibaimjlaaDoorMo
namespace Go.Proofs.YthoffbibaimjlaaDoor
set_option linter.unusedVariables false
open Go.RowKit

/-! ### what the laws of pictures share -/
theorem sameL_self (xs : List ByteArray) : sameL xs xs = true := by unfold sameL; simp
theorem small_of {ss : List ByteArray} {left : Int} (h : left ≤ 1048576) (h2 : (ss.length : Int) ≤ left) : ss.length ≤ 1048576 := by omega
/-- two bools handed back -/
def SaysBB (b ok : Bool) (w : World) (e : Ending) (w' : World) : Prop := e = .returned (.tuple #[.bool b, .bool ok]) ∧ Below w.heap.size w w'
theorem hasB_insB (a b : Nat) (x y : Int) : hasB a b x y = insB a b x y := by
  unfold hasB insB inB
  rw [show decide (x < (a : Int)) = decide (x ≤ (a : Int) - 1) from decide_eq_decide.2 (by omega), show decide (y < (b : Int)) = decide (y ≤ (b : Int) - 1) from decide_eq_decide.2 (by omega)]
  cases decide (0 ≤ x) <;> cases decide (x ≤ (a : Int) - 1) <;> cases decide (0 ≤ y) <;> cases decide (y ≤ (b : Int) - 1) <;> rfl
theorem words_bit {ss : List ByteArray} (V : VP ss) (x y : Int) : blackB (row0 ss).size ss.length (wordsOf ss) x y = pixI ss x y := by
  unfold blackB pixI
  rw [hasB_insB]
  cases h : insB (row0 ss).size ss.length x y with
  | false => rfl
  | true =>
    unfold insB inB at h
    simp only [Bool.and_eq_true, decide_eq_true_eq] at h
    obtain ⟨⟨hx0, hx1⟩, hy0, hy1⟩ := h
    have hy : y.toNat < ss.length := by omega
    rw [Bool.true_and, Bool.true_and]
    unfold wordsOf rowWord
    rw [if_pos hy, wordF_bit]
    rw [(V.rows _ hy).1, show decide (x.toNat < (row0 ss).size) = true from decide_eq_true (by omega), Bool.true_and]
theorem rowWord_lt {s : ByteArray} (h : s.size ≤ 16) : rowWord s < 4294967296 := by
  have h1 := wordF_lt (blackAt s) s.size
  have h2 : 2 ^ s.size ≤ 2 ^ 16 := Nat.pow_le_pow_right (by omega) h
  unfold rowWord
  omega
theorem words_lt {ss : List ByteArray} (V : VP ss) (j : Nat) : wordsOf ss j < 4294967296 := by
  unfold wordsOf
  split
  · rename_i h
    exact rowWord_lt (by rw [(V.rows j h).1]; exact V.w16)
  · omega
theorem ret_bb {a b c d : Bool} (h1 : a = c) (h2 : b = d) : Ending.returned (.tuple #[.bool a, .bool b]) = .returned (.tuple #[.bool c, .bool d]) := by rw [h1, h2]
def pixOk (ss : List ByteArray) (x y : Int) : Bool := validB ss && insB (row0 ss).size ss.length x y
def pixVal (ss : List ByteArray) (x y : Int) : Bool := validB ss && pixI ss x y
theorem mkPic_congr {wd h : Nat} {f g : Nat → Nat → Bool} (e : ∀ y, y < h → ∀ x, x < wd → f y x = g y x) : mkPic wd h f = mkPic wd h g := by
  unfold mkPic
  refine List.map_congr_left fun y hy => ?_
  rw [List.mem_range] at hy
  unfold rowOf mkRow
  rw [show (List.range wd).map (fun x => if f y x then (35 : UInt8) else 46) = (List.range wd).map (fun x => if g y x then 35 else 46) from List.map_congr_left fun x hx => by rw [e y hy x (List.mem_range.1 hx)]]
theorem own_bools {w : World} {base g n cap : Nat} {bs : List Bool} (h : w.ownsRow base 4 1 (.slice (some ⟨g, 0, none⟩) n cap) n (boolV bs)) (hn : bs.length = n) : Bools w g 0 bs := by
  refine ⟨(h.lt g rfl).2, fun i hi => ?_⟩
  have := h.cells (g := g) rfl i (.bool (bs.getD i false)) (by unfold boolV; rw [List.getElem?_map, List.getElem?_eq_getElem hi, List.getD_eq_getElem?_getD, List.getElem?_eq_getElem hi]; rfl)
  have e1 : (⟨g, 0, none⟩ : Addr).add i = ⟨g, 0 + i, none⟩ := by
    simp only [Addr.add, Nat.zero_add]
    split <;> simp_all
  rwa [e1] at this
theorem boolV_set (bs : List Bool) (k : Nat) (b : Bool) : (boolV bs).set k (.bool b) = boolV (bs.set k b) := by simp [boolV, List.map_set]
theorem in_range {a b x y : Nat} (hx : x < a) (hy : y < b) : insB a b x y = true := by
  unfold insB inB
  simp only [Bool.and_eq_true, decide_eq_true_eq]
  omega
theorem words_at {ss : List ByteArray} (V : VP ss) (y x : Nat) (hy : y < ss.length) (hx : x < (row0 ss).size) : (wordsOf ss y).testBit x = pixF ss y x := by
  have h0 := words_bit V (x : Int) (y : Int)
  have hh : hasB (row0 ss).size ss.length x y = true := by rw [hasB_insB]; exact in_range hx hy
  unfold blackB pixI at h0
  rw [hh, in_range hx hy] at h0
  simpa [pixF] using h0
theorem after_alloc {w w1 : World} {M : Array Value} {P : Nat} {t t2 : TypeId} {x u : Value} (hP : w1.heap[P]? = some (.cells #[x] t (0, 0))) (hb : Below w.heap.size w w1) (hw : w.heap.size ≤ P) :
    ((w1.setCell ⟨P, 0, none⟩ u).alloc (.cells M t2)).cell? ⟨P, 0, none⟩ = some u ∧ Below w.heap.size w ((w1.setCell ⟨P, 0, none⟩ u).alloc (.cells M t2)) := by
  have hl := (Array.getElem?_eq_some_iff.1 hP).1
  have hss : (w1.setCell ⟨P, 0, none⟩ u).heap.size = w1.heap.size := by simp [World.setCell]
  exact ⟨cell_of_one ((Below.heap_alloc _ _ P (by rw [hss]; exact hl)).trans (one_setCell hP)), (hb.setCell (p := ⟨P, 0, none⟩) hw u).alloc (by rw [hss]; exact hb.size) _⟩
end Go.Proofs.YthoffbibaimjlaaDoor
