/- Contracts of single functions, and plain lemmas, on which the exact laws of this seat rest; each holds under the conditions that it states. -/
import Derived.Test.YtabkkpifkkgpeaaDoorL8
import Derived.Test.YtabkkpifkkgpeaaDoorMw
import Derived.Test.YtabkkpifkkgpeaaDoorLf
import Derived.Test.YtabkkpifkkgpeaaDoorCc
import Derived.Test.YtabkkpifkkgpeaaDoorAn
namespace Go.Proofs.YtabkkpifkkgpeaaDoor
set_option linter.unusedVariables false
set_option linter.unusedSimpArgs false
open Go.RowKit

/-! ### a pixel of what an element makes -/
def opnQ (ss : List ByteArray) (xs : List (Int × Int)) (X Y : Int) (i : Nat) : Bool := fitB ss xs (X - (xs.getD i (0, 0)).1) (Y - (xs.getD i (0, 0)).2)
def opnI (ss : List ByteArray) (xs : List (Int × Int)) (X Y : Int) : Bool := (List.range xs.length).any (opnQ ss xs X Y)
def clsQ (ss : List ByteArray) (xs : List (Int × Int)) (X Y : Int) (i : Nat) : Bool := somB ss xs (X + (xs.getD i (0, 0)).1) (Y + (xs.getD i (0, 0)).2)
def clsI (ss : List ByteArray) (xs : List (Int × Int)) (X Y : Int) : Bool := (List.range xs.length).all (clsQ ss xs X Y)
theorem opn_bad {ss : List ByteArray} {xs : List (Int × Int)} {X Y : Int} {i : Nat} (hi : i < xs.length) (h : opnQ ss xs X Y i = true) : opnI ss xs X Y = true :=
  List.any_eq_true.2 ⟨i, List.mem_range.2 hi, h⟩
theorem opn_good {ss : List ByteArray} {xs : List (Int × Int)} {X Y : Int} (h : ∀ i, i < xs.length → opnQ ss xs X Y i = false) : opnI ss xs X Y = false := by
  unfold opnI
  rw [List.any_eq_false]
  intro i hi
  rw [h i (List.mem_range.1 hi)]
  simp
theorem cls_bad {ss : List ByteArray} {xs : List (Int × Int)} {X Y : Int} {i : Nat} (hi : i < xs.length) (h : clsQ ss xs X Y i = false) : clsI ss xs X Y = false := by
  unfold clsI
  rw [List.all_eq_false]
  exact ⟨i, List.mem_range.2 hi, by rw [h]; simp⟩
theorem cls_good {ss : List ByteArray} {xs : List (Int × Int)} {X Y : Int} (h : ∀ i, i < xs.length → clsQ ss xs X Y i = true) : clsI ss xs X Y = true :=
  List.all_eq_true.2 (fun i hi => h i (List.mem_range.1 hi))
theorem opn_pl (ss : List ByteArray) (xs : List (Int × Int)) (X Y : Int) : opnI ss xs X Y = plOpnB (pixI ss) xs X Y := by
  unfold opnI plOpnB
  have : opnQ ss xs X Y = fun i => (fun o : Int × Int => plFitB (pixI ss) xs (X - o.1) (Y - o.2)) (xs.getD i (0, 0)) := funext fun i => fitB_pl ss xs _ _
  rw [this]
  exact any_getD (xs := xs) (fun o : Int × Int => plFitB (pixI ss) xs (X - o.1) (Y - o.2))
theorem cls_pl (ss : List ByteArray) (xs : List (Int × Int)) (X Y : Int) : clsI ss xs X Y = plClsB (pixI ss) xs X Y := by
  unfold clsI plClsB
  have : clsQ ss xs X Y = fun i => (fun o : Int × Int => plSomB (pixI ss) xs (X + o.1) (Y + o.2)) (xs.getD i (0, 0)) := funext fun i => somB_pl ss xs _ _
  rw [this]
  exact all_getD (xs := xs) (fun o : Int × Int => plSomB (pixI ss) xs (X + o.1) (Y + o.2))

/-- what an element makes of a pixel -/
def pxB (k : Nat) (ss : List ByteArray) (xs : List (Int × Int)) (X Y : Int) : Bool := if k = 0 then somB ss xs X Y else if k = 1 then fitB ss xs X Y else if k = 2 then opnI ss xs X Y else clsI ss xs X Y
/-- what a plane shows behind a change -/
def chG (k : Nat) (g : Nat → Nat) (xs : List (Int × Int)) : Nat → Nat := if k = 0 then grG g xs else if k = 1 then shG2 g xs else if k = 2 then opG g xs else clG g xs
theorem chG_pix (k : Nat) {ss : List ByteArray} (V : VP ss) (xs : List (Int × Int)) (hE : ElOk xs) (x y : Nat) (hx : x < 16) (hy : y < 16) : plX (chG k (plOf (wordsOf ss) ss.length) xs) y x = pxB k ss xs x y := by
  have hg := plOf_plw (wordsOf ss) ss.length (words_small V)
  have hp : plF (plOf (wordsOf ss) ss.length) = pixI ss := funext fun X => funext fun Y => plOf_pix V X Y
  rw [plX_plF _ x y hx hy]
  unfold chG pxB
  split
  · rw [gr_pix _ hg xs hE x y (decide_eq_true (by omega)), hp, somB_pl]
    rfl
  · split
    · rw [sh_pix _ hg xs hE x y (decide_eq_true (by omega)), hp, fitB_pl]
      rfl
    · split
      · rw [op_pix _ hg xs hE x y hx hy, hp, opn_pl]
      · rw [cl_pix _ hg xs hE x y hx hy, hp, cls_pl]
end Go.Proofs.YtabkkpifkkgpeaaDoor

/- Contracts of single functions, and plain lemmas, on which the exact laws of this seat rest; each holds under the conditions that it states. -/
namespace Go.Proofs.YtabkkpifkkgpeaaDoor
set_option linter.unusedVariables false
open Go.RowKit

/-- a pixel of what an element makes -/
def pxF (k : Nat) (ss : List ByteArray) (xs : List (Int × Int)) (y x : Nat) : Bool := pxB k ss xs x y

end Go.Proofs.YtabkkpifkkgpeaaDoor

/- Contracts of single functions, and plain lemmas, on which the exact laws of this seat rest; each holds under the conditions that it states. -/
namespace Go.Proofs.YtabkkpifkkgpeaaDoor
set_option linter.unusedVariables false
open Go.RowKit

/-- what an element makes of a picture, of any picture and element -/
def pxOk (ss : List ByteArray) (xs : List (Int × Int)) : Bool := validB ss && elB xs
def pxP (k : Nat) (ss : List ByteArray) (xs : List (Int × Int)) : List ByteArray := if pxOk ss xs then mkPic (row0 ss).size ss.length (pxF k ss xs) else []

end Go.Proofs.YtabkkpifkkgpeaaDoor

/- Contracts of single functions, and plain lemmas, on which the exact laws of this seat rest; each holds under the conditions that it states. -/
namespace Go.Proofs.YtabkkpifkkgpeaaDoor
set_option linter.unusedVariables false
open Go.RowKit

/-- the start world of a call with a picture, an element and a picture's result -/
def bxPE (w : World) (u v : Value) : World := ((w.alloc (.cells #[u] 42)).alloc (.cells #[v] 46)).alloc (.cells #[.slice none 0 0] 42)
theorem bxPE_below (w : World) (u v : Value) : Below w.heap.size w (bxPE w u v) := (Joins.below_alloc2 w _ _).alloc (by simp; omega) _
theorem bxPE_0 (w : World) (u v : Value) : (bxPE w u v).heap[w.heap.size]? = some (.cells #[u] 42 (0, 0)) := by
  unfold bxPE; rw [Below.heap_alloc _ _ _ (by simp; omega), Below.heap_alloc _ _ _ (by simp)]; exact heap_alloc_last w _
theorem bxPE_1 (w : World) (u v : Value) : (bxPE w u v).heap[w.heap.size + 1]? = some (.cells #[v] 46 (0, 0)) := by
  unfold bxPE; rw [Below.heap_alloc _ _ _ (by simp)]
  have := heap_alloc_last (w.alloc (.cells #[u] 42)) (.cells #[v] 46)
  simp only [World.size_alloc] at this
  exact this
theorem bxPE_2 (w : World) (u v : Value) : (bxPE w u v).heap[w.heap.size + 1 + 1]? = some (.cells #[.slice none 0 0] 42 (0, 0)) := by
  have := heap_alloc_last ((w.alloc (.cells #[u] 42)).alloc (.cells #[v] 46)) (.cells #[.slice none 0 0] 42)
  simp only [World.size_alloc] at this
  exact this
theorem bxPE_size (w : World) (u v : Value) : (bxPE w u v).heap.size = w.heap.size + 3 := by unfold bxPE; simp

end Go.Proofs.YtabkkpifkkgpeaaDoor
