/- Contracts of single functions, and plain lemmas, on which the exact laws of this seat rest; each holds under the conditions that it states. -/
import Derived.Test.YthoffbibaimjlaaDoorBk
namespace Go.Proofs.YthoffbibaimjlaaDoor
set_option linter.unusedVariables false
open Go.RowKit

/-- a younger or an elder row is kept while another one is written or grows -/
theorem own_beside {w w' : World} {base base2 n n2 s s2 hi hi2 : Nat} {e e2 : TypeId} {v v2 : Value} {xs xs2 : List Value} (h : w.ownsRow base e s v n xs) (h2 : w.ownsRow base2 e2 s2 v2 n2 xs2) (l1 : ∀ j, v.ownBlock = some j → j < hi) (l2 : ∀ j, v2.ownBlock = some j → j < hi2) (hd : hi ≤ base2 ∨ hi2 ≤ base) (hg : w.grownBy w' v2.ownBlock) : w'.ownsRow base e s v n xs := by
  refine h.kept hg ?_
  rcases h1 : v.ownBlock with _ | j
  · left; rfl
  · right
    intro e1
    have a1 := (h.lt j h1).1
    have a2 := (h2.lt j e1.symm).1
    have a3 := l1 j h1
    have a4 := l2 j e1.symm
    omega

/-- a picture in a variable of the call's own; its row was made between the heights lo and hi -/
structure Pic1 (W : World) (b lo hi : Nat) (u : Value) (xs : List ByteArray) : Prop where
  c : W.heap[b]? = some (.cells #[u] 27 (0, 0))
  o : OwnP W lo u xs
  lt : ∀ j, u.ownBlock = some j → j < hi

variable {W W' : World} {b b2 lo lo2 hi hi2 : Nat} {u v0 : Value} {xs ys ms : List ByteArray}
theorem Pic1.below (h : Pic1 W b lo hi u xs) (hb : Below W.heap.size W W') : Pic1 W' b lo hi u xs :=
  ⟨(hb.block _ (Array.getElem?_eq_some_iff.1 h.c).1).trans h.c, own_below h.o hb, h.lt⟩
theorem Pic1.v (h : Pic1 W b lo hi u xs) : W.cell? ⟨b, 0, none⟩ = some u := cell_of_one h.c
theorem Pic1.sl (h : Pic1 W b lo hi u xs) : Sl W u xs := h.o.sl
theorem Pic1.marked (h : Pic1 W b lo hi u xs) (ho : OwnP W' lo u ms) (hg : W.grownBy W' u.ownBlock) : Pic1 W' b lo hi u ms :=
  ⟨var_far h.c h.o (by decide) hg, ho, h.lt⟩
theorem Pic1.other (h : Pic1 W b lo hi u xs) (h2 : Pic1 W b2 lo2 hi2 v0 ys) (hd : hi ≤ lo2 ∨ hi2 ≤ lo) (hg : W.grownBy W' v0.ownBlock) : Pic1 W' b lo hi u xs :=
  ⟨var_far h.c h2.o (by decide) hg, own_beside h.o h2.o h.lt h2.lt hd hg, h.lt⟩
theorem Pic1.grow {w : World} (h : Pic1 W b lo hi u xs) (hw : w.heap.size ≤ lo) (hb : Below w.heap.size w W) (hg : W.grownBy W' u.ownBlock) : Below w.heap.size w W' :=
  hb.grown hg hb.size (fun k hk => Nat.le_trans hw (h.o.lt k hk).1)
theorem Pic1.argcell {k : Nat} {x : Value} (h : Pic1 W b lo hi u xs) (hc : W.cell? ⟨k, 0, none⟩ = some x) (hk : k < lo) (hg : W.grownBy W' u.ownBlock) : W'.cell? ⟨k, 0, none⟩ = some x := by
  rw [World.cell?_of_block (hg.block k (blk_lt hc) (fun e1 => by have := (h.o.lt k e1.symm).1; omega))]; exact hc
/-- it comes -/
theorem Pic1.new {w : World} {P : List ByteArray} (h : OwnP w lo u P) : Pic1 (w.alloc (.cells #[u] 27)) w.heap.size lo w.heap.size u P :=
  ⟨heap_alloc_last w _, h.alloc _, fun j hj => (h.lt j hj).2⟩
theorem pic_set {W : World} {q lo : Nat} {x u : Value} {P : List ByteArray} (hq : W.heap[q]? = some (.cells #[x] 27 (0, 0))) (h : OwnP W lo u P) : Pic1 (W.setCell ⟨q, 0, none⟩ u) q lo W.heap.size u P :=
  ⟨one_setCell hq, own_set h hq (by decide), fun j hj => (h.lt j hj).2⟩
end Go.Proofs.YthoffbibaimjlaaDoor
