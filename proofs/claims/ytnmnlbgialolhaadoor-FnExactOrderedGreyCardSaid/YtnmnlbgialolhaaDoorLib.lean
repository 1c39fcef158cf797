/- Plain lemmas and words that every walk of this seat uses. -/
import Derived.Test.YtnmnlbgialolhaaDoorProg
import Derived.WalkKit
import Derived.WalkSpells
import Derived.WalkLawsBesides
import Derived.Below
import Derived.Laws.RangeAny
import Derived.Outline
import Derived.Lib.Hide
import Derived.Lib.SmallJoins
import Derived.Deep.DeepMust
import Derived.Deep.LoopGhost
import Derived.Deep.QuietTactic
import Derived.BigQuiet
namespace Go.Proofs.YtnmnlbgialolhaaDoor
set_option linter.unusedVariables false
open Go.RowKit

theorem ret_bool {a b : Bool} (h : a = b) : Ending.returned (.bool a) = .returned (.bool b) := by rw [h]
theorem ret_int {k : IntKind} {a b : Int} (h : a = b) : Ending.returned (.int k a) = .returned (.int k b) := by rw [h]

theorem bcell {W w1 : World} (hb : Below W.heap.size W w1) : (∀ b o, b < W.heap.size → w1.cell? ⟨b, o, none⟩ = W.cell? ⟨b, o, none⟩) ∧ (∀ b o, b < W.heap.size → w1.frozen? ⟨b, o, none⟩ = W.frozen? ⟨b, o, none⟩) :=
  ⟨fun b o h => hb.cell (p := ⟨b, o, none⟩) h, fun b o h => hb.frozen (p := ⟨b, o, none⟩) h⟩

/-- cell's block exists -/
theorem blk_lt {w : World} {b o : Nat} {v : Value} (h : w.cell? ⟨b, o, none⟩ = some v) : b < w.heap.size := World.block_lt_of_cell? w ⟨b, o, none⟩ h

/-- The strings ss lie in w from block b, offset off on. -/
def Strs (w : World) (b off : Nat) (ss : List ByteArray) : Prop := b < w.heap.size ∧ ∀ i, i < ss.length → w.cell? ⟨b, off + i, none⟩ = some (.string (ss.getD i ByteArray.empty))

theorem Strs.below {w w' : World} {b off : Nat} {ss : List ByteArray} {B : Nat} (h : Strs w b off ss) (hb : Below B w w') (hB : b < B) : Strs w' b off ss :=
  ⟨Nat.lt_of_lt_of_le h.1 hb.size, fun i hi => (hb.cell (p := ⟨b, off + i, none⟩) hB).trans (h.2 i hi)⟩

/-- a row of strings of the call's own -/
theorem own_strs {w : World} {base g n cap : Nat} {ss : List ByteArray} (e : TypeId) (h : w.ownsRow base e 1 (.slice (some ⟨g, 0, none⟩) n cap) n (ss.map Value.string)) : Strs w g 0 ss := by
  have hl := h.1
  simp at hl
  refine ⟨(h.lt g rfl).2, fun i hi => ?_⟩
  have := h.cellAt i (by omega)
  rw [Nat.zero_add, this]
  simp [hi]

theorem getD_map_str (ss : List ByteArray) (i : Nat) (h : i < ss.length) : (ss.map Value.string)[i]? = some (.string (ss.getD i ByteArray.empty)) := by
  simp [h]

theorem set_prefix {α : Type} (f : Nat → α) (z : α) (n k : Nat) (h : k < n) :
    (((List.range k).map f) ++ List.replicate (n - k) z).set k (f k) = ((List.range (k + 1)).map f) ++ List.replicate (n - (k + 1)) z := by
  rw [show n - k = (n - (k + 1)) + 1 from by omega, List.replicate_succ, List.range_succ, List.map_append]
  have : ((List.range k).map f).length = k := by simp
  rw [List.set_append]
  simp [this]

theorem range_getD (ss : List ByteArray) : (List.range ss.length).map (fun i => Value.string (ss.getD i ByteArray.empty)) = ss.map Value.string := by
  apply List.ext_getElem?
  intro i
  by_cases hi : i < ss.length
  · simp [hi]
  · simp [hi]

theorem Tryd.info9 : (Tryd.prog.info? 9).map (fun i => (i.zero, i.size, i.bytes)) = some (some (.string ⟨#[]⟩), 1, 16) := by kernel_rfl

/-- A value that is a slice of the strings ss: empty, whatever it points to; or its cells lie there. -/
def Sl (w : World) (v : Value) (ss : List ByteArray) : Prop :=
  (∃ ao cap, v = .slice ao 0 cap ∧ ss = []) ∨ (∃ b off cap, v = .slice (some ⟨b, off, none⟩) ss.length cap ∧ 0 < ss.length ∧ Strs w b off ss)

theorem Sl.below {w w' : World} {v : Value} {ss : List ByteArray} (h : Sl w v ss) (hb : Below w.heap.size w w') : Sl w' v ss := by
  rcases h with h | ⟨b, off, cap, h1, h2, h3⟩
  · exact Or.inl h
  · exact Or.inr ⟨b, off, cap, h1, h2, h3.below hb h3.1⟩

/-- A slice of strings of the call's own. -/
def OwnP (w : World) (base : Nat) (v : Value) (ss : List ByteArray) : Prop := w.ownsRow base 9 1 v ss.length (ss.map Value.string)

theorem OwnP.sl {w : World} {base : Nat} {v : Value} {ss : List ByteArray} (h : OwnP w base v ss) : Sl w v ss := by
  rcases Joins.ownsRow_forms h with ⟨rfl, h0⟩ | ⟨g, cap, rfl⟩
  · exact Or.inl ⟨none, 0, rfl, List.length_eq_zero_iff.1 h0⟩
  · by_cases h0 : ss.length = 0
    · have := List.length_eq_zero_iff.1 h0
      subst this
      exact Or.inl ⟨_, _, rfl, rfl⟩
    · exact Or.inr ⟨g, 0, cap, rfl, by omega, own_strs _ h⟩

theorem OwnP.below {w w' : World} {base : Nat} {v : Value} {ss : List ByteArray} (h : OwnP w base v ss) (hb : Below w.heap.size w w') : OwnP w' base v ss := by
  refine ⟨h.1, ?_⟩
  rcases h.2 with h2 | ⟨g, cap, cur, hv, hg, hh, r⟩
  · exact Or.inl h2
  · exact Or.inr ⟨g, cap, cur, hv, hg, by rw [hb.block g (Array.getElem?_eq_some_iff.1 hh).1]; exact hh, r⟩

theorem OwnP.mono {w : World} {base base' : Nat} {v : Value} {ss : List ByteArray} (h : OwnP w base v ss) (hb : base' ≤ base) : OwnP w base' v ss := Joins.ownsRow_le h hb

/-- An ending that hands back a picture with the rows ss, in memory of its own. -/
def NewPic (w : World) (ss : List ByteArray) (e : Ending) (w' : World) : Prop := ∃ v, e = .returned (.agg #[v]) ∧ OwnP w' w.heap.size v ss ∧ Below w.heap.size w w'
/-- An ending that hands back a picture with the rows ss whose slice begins at a block's head. -/
def TookPic (w : World) (ss : List ByteArray) (e : Ending) (w' : World) : Prop := ∃ g cap, e = .returned (.agg #[.slice (some ⟨g, 0, none⟩) ss.length cap]) ∧ OwnP w' w.heap.size (.slice (some ⟨g, 0, none⟩) ss.length cap) ss ∧ Below w.heap.size w w'
/-- .. a picture and a bool -/
def NewPic2 (w : World) (ss : List ByteArray) (ok : Bool) (e : Ending) (w' : World) : Prop := ∃ v, e = .returned (.tuple #[.agg #[v], .bool ok]) ∧ OwnP w' w.heap.size v ss ∧ Below w.heap.size w w'

/-- the sizes' sum goes down -/
def SomeSz (left : Int) (ss : List ByteArray) (w : World) (e : Ending) (w' : World) : Prop :=
  ∃ r : Int, e = .returned (.int .i64 r) ∧ r ≤ left ∧ -1 ≤ r ∧ (0 ≤ r → (ss.length : Int) ≤ left ∧ ∀ s ∈ ss, (s.size : Int) ≤ left) ∧ Below w.heap.size w w'

/-! ### digits of marks -/
def digs (k : Nat) : List UInt8 := if h : k = 0 then [] else digs (k / 10) ++ [UInt8.ofNat (48 + k % 10)]
decreasing_by omega
theorem digs_len (k : Nat) : (digs k).length ≤ k := by
  induction k using Nat.strongRecOn with
  | _ k ih =>
    unfold digs
    split
    · simp
    · have := ih (k / 10) (by omega)
      simp; omega
def mt (k : Nat) : ByteArray := if k = 0 then ⟨#[109, 48]⟩ else ⟨(109 :: digs k).toArray⟩

end Go.Proofs.YtnmnlbgialolhaaDoor
