/- Contracts of single functions, and plain lemmas, on which the exact laws of this seat rest; each holds under the conditions that it states. -/
import Derived.Test.YtdeagfmldpociaaEq
import Derived.Laws.IdiomStrings
import Derived.Deep.RegionHeld3
namespace Go.Proofs.Ytdeagfmldpociaa
set_option linter.unusedVariables false
open Go.RowKit

theorem digs_step (j : Nat) (h : 0 < j) (l : List UInt8) : digs j ++ l = digs (j / 10) ++ (UInt8.ofNat (48 + j % 10) :: l) := by
  conv => lhs; unfold digs
  rw [dif_neg (by omega)]
  simp

theorem digs_zero : digs 0 = [] := by unfold digs; simp
theorem bpush (c : UInt8) (l : List UInt8) : (⟨#[c]⟩ : ByteArray) ++ ⟨l.toArray⟩ = ⟨(c :: l).toArray⟩ := by
  rw [ByteArray.mk_append_mk]; simp

end Go.Proofs.Ytdeagfmldpociaa

/- Contracts of single functions, and plain lemmas, on which the exact laws of this seat rest; each holds under the conditions that it states. -/
namespace Go.Proofs.Ytdeagfmldpociaa
set_option linter.unusedVariables false
open Go.RowKit

theorem grown_below {w a b : World} {row : Option Nat} (h : w.grownBy a row) (hb : Below a.heap.size a b) : w.grownBy b row :=
  ⟨hb.os.trans h.os, hb.tape.trans h.tape, hb.output.trans h.output, Nat.le_trans h.size hb.size, fun k hk hr => (hb.block k (Nat.lt_of_lt_of_le hk h.size)).trans (h.block k hk hr)⟩
theorem grown_setCell {w a : World} {g o : Nat} (h : w.grownBy a (some g)) (u : Value) : w.grownBy (a.setCell ⟨g, o, none⟩ u) (some g) :=
  ⟨h.os, h.tape, h.output, Nat.le_trans h.size (by simp [World.setCell]), fun k hk hr => (Below.heap_setCell a ⟨g, o, none⟩ u k (fun e => hr (by rw [e]))).trans (h.block k hk hr)⟩
theorem grown_refl (w : World) (row : Option Nat) : w.grownBy w row := ⟨rfl, rfl, rfl, Nat.le_refl _, fun _ _ _ => rfl⟩
/-- What a row of the call's own shows, behind writes to it alone. -/
theorem Below.grown_own {W w w' : World} {row : Option Nat} {B : Nat} (h : Below B W w) (hg : w.grownBy w' row) (hB : B ≤ w.heap.size) (hr : ∀ k, row = some k → B ≤ k) : Below B W w' := h.grown hg hB hr

theorem set_map_range {α : Type} (f : Nat → α) (n k : Nat) (x : α) : ((List.range n).map f).set k x = (List.range n).map (fun j => if j = k then x else f j) := by
  apply List.ext_getElem?
  intro i
  rw [List.getElem?_set]
  by_cases hi : k = i
  · subst hi
    by_cases hn : k < n <;> simp [hn]
  · have : ¬ i = k := fun e => hi e.symm
    by_cases hn : i < n <;> simp [hi, hn, this]

def marks (k n : Nat) : List ByteArray := (List.range n).map fun i => mt (k + i)
theorem marks_len (k n : Nat) : (marks k n).length = n := by simp [marks]
/-- i of n marks are laid over ss -/
def part (ss : List ByteArray) (k n i : Nat) : List Value := (List.range n).map fun j => if j < i then Value.string (mt (k + j)) else Value.string (ss.getD j ByteArray.empty)
theorem part_zero (ss : List ByteArray) (k : Nat) : part ss k ss.length 0 = ss.map Value.string := by
  unfold part
  simp only [Nat.not_lt_zero, if_false]
  exact range_getD ss
theorem part_full (ss : List ByteArray) (k n : Nat) : part ss k n n = (marks k n).map Value.string := by
  unfold part marks
  rw [List.map_map]
  apply List.map_congr_left
  intro j hj
  simp at hj
  simp [hj]
theorem part_set (ss : List ByteArray) (k n i : Nat) : (part ss k n i).set i (.string (mt (k + i))) = part ss k n (i + 1) := by
  unfold part
  rw [set_map_range]
  apply List.map_congr_left
  intro j hj
  by_cases h1 : j = i
  · subst h1; simp
  · by_cases h2 : j < i
    · simp [h1, h2, show j < i + 1 from by omega]
    · simp [h1, h2, show ¬ j < i + 1 from by omega]
theorem part_at (ss : List ByteArray) (k n i : Nat) (h : i < n) : (part ss k n i)[i]? = some (.string (ss.getD i ByteArray.empty)) := by
  unfold part
  simp [h]

/-- strings laid into a row of the call's own -/
def Marked (w : World) (base : Nat) (v : Value) (k n : Nat) (e : Ending) (w' : World) : Prop := e = .returned (.int .i64 ((k + n : Nat) : Int)) ∧ OwnP w' base v (marks k n) ∧ w.grownBy w' v.ownBlock

end Go.Proofs.Ytdeagfmldpociaa

/- Contracts of single functions, and plain lemmas, on which the exact laws of this seat rest; each holds under the conditions that it states. -/
namespace Go.Proofs.Ytdeagfmldpociaa
set_option linter.unusedVariables false
open Go.RowKit

/-- the held count -/
def Held (k n : Nat) (w : World) (e : Ending) (w' : World) : Prop := e = .returned (.int .i64 ((k + n : Nat) : Int)) ∧ Below w.heap.size w w'

theorem cell_kept {w w1 : World} {b o : Nat} {v : Value} (hb : Below w.heap.size w w1) (h : w.cell? ⟨b, o, none⟩ = some v) : w1.cell? ⟨b, o, none⟩ = some v := (hb.cell (p := ⟨b, o, none⟩) (blk_lt h)).trans h

end Go.Proofs.Ytdeagfmldpociaa
