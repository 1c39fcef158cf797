/- Contracts of single functions, and plain lemmas, on which the exact laws of this seat rest; each holds under the conditions that it states. -/
import Derived.Test.YthoffbibaimjlaaDoorBk
namespace Go.Proofs.YthoffbibaimjlaaDoor
set_option linter.unusedVariables false
open Go.RowKit

/-- a variable of the call's own is kept while an owned row of another type grows -/
theorem var_grown {w w' : World} {base2 n2 s2 P : Nat} {e2 t : TypeId} {v2 : Value} {cs : Array Value} {xs2 : List Value} (h : w.heap[P]? = some (.cells cs t (0, 0))) (h2 : w.ownsRow base2 e2 s2 v2 n2 xs2) (he : t ≠ e2) (hg : w.grownBy w' v2.ownBlock) : w'.heap[P]? = some (.cells cs t (0, 0)) := var_far h h2 he hg

structure TwoPics (W : World) (b1 b2 lo hi : Nat) (u v : Value) (xs ys : List ByteArray) : Prop where
  c1 : W.heap[b1]? = some (.cells #[u] 27 (0, 0))
  c2 : W.heap[b2]? = some (.cells #[v] 27 (0, 0))
  o1 : OwnP W lo u xs
  o2 : OwnP W hi v ys
  lt : ∀ j, u.ownBlock = some j → j < hi

theorem TwoPics.below {W W' : World} {b1 b2 lo hi : Nat} {u v : Value} {xs ys : List ByteArray} (h : TwoPics W b1 b2 lo hi u v xs ys) (hb : Below W.heap.size W W') : TwoPics W' b1 b2 lo hi u v xs ys :=
  ⟨(hb.block _ (Array.getElem?_eq_some_iff.1 h.c1).1).trans h.c1, (hb.block _ (Array.getElem?_eq_some_iff.1 h.c2).1).trans h.c2, own_below h.o1 hb, own_below h.o2 hb, h.lt⟩
theorem TwoPics.marked {W W' : World} {b1 b2 lo hi : Nat} {u v : Value} {xs ys zs : List ByteArray} (h : TwoPics W b1 b2 lo hi u v xs ys) (ho : OwnP W' hi v zs) (hg : W.grownBy W' v.ownBlock) : TwoPics W' b1 b2 lo hi u v xs zs :=
  ⟨var_far h.c1 h.o2 (by decide) hg, var_far h.c2 h.o2 (by decide) hg, own_apart (k := 0) h.o1 h.o2 h.lt hg, ho, h.lt⟩
theorem TwoPics.v1 {W : World} {b1 b2 lo hi : Nat} {u v : Value} {xs ys : List ByteArray} (h : TwoPics W b1 b2 lo hi u v xs ys) : W.cell? ⟨b1, 0, none⟩ = some u := cell_of_one h.c1
theorem TwoPics.v2 {W : World} {b1 b2 lo hi : Nat} {u v : Value} {xs ys : List ByteArray} (h : TwoPics W b1 b2 lo hi u v xs ys) : W.cell? ⟨b2, 0, none⟩ = some v := cell_of_one h.c2

/-- want and got, each in a variable of its own, made one after the other -/
theorem TwoPics.mk' {w1 w2 : World} {lo : Nat} {u v : Value} {P : List ByteArray} (h1 : OwnP w1 lo u P) (h2 : OwnP w2 (w1.alloc (.cells #[u] 27)).heap.size v P) (hb2 : Below (w1.alloc (.cells #[u] 27)).heap.size (w1.alloc (.cells #[u] 27)) w2) :
    TwoPics (w2.alloc (.cells #[v] 27)) w1.heap.size w2.heap.size lo (w1.heap.size + 1) u v P P := by
  have hs := hb2.size
  simp at hs
  refine ⟨?_, heap_alloc_last w2 _, ?_, ?_, fun j hj => ?_⟩
  · rw [Below.heap_alloc _ _ _ (by omega), hb2.block _ (by simp)]; exact heap_alloc_last w1 _
  · exact (own_below (h1.alloc _) hb2).alloc _
  · have := h2.alloc (.cells #[v] 27)
    unfold OwnP
    simpa using this
  · have := (h1.lt j hj).2; omega

/-- want and got, each in a variable of its own (other rows), made one after the other -/
theorem TwoPics.mk2 {w1 w2 : World} {lo : Nat} {u v : Value} {P Q : List ByteArray} (h1 : OwnP w1 lo u P) (h2 : OwnP w2 (w1.alloc (.cells #[u] 27)).heap.size v Q) (hb2 : Below (w1.alloc (.cells #[u] 27)).heap.size (w1.alloc (.cells #[u] 27)) w2) :
    TwoPics (w2.alloc (.cells #[v] 27)) w1.heap.size w2.heap.size lo (w1.heap.size + 1) u v P Q := by
  have hs := hb2.size
  simp at hs
  refine ⟨?_, heap_alloc_last w2 _, ?_, ?_, fun j hj => ?_⟩
  · rw [Below.heap_alloc _ _ _ (by omega), hb2.block _ (by simp)]; exact heap_alloc_last w1 _
  · exact (own_below (h1.alloc _) hb2).alloc _
  · have := h2.alloc (.cells #[v] 27)
    unfold OwnP
    simpa using this
  · have := (h1.lt j hj).2; omega

theorem TwoPics.grow {w W W' : World} {b1 b2 lo hi : Nat} {u v : Value} {xs ys : List ByteArray} (h : TwoPics W b1 b2 lo hi u v xs ys) (hw : w.heap.size ≤ hi) (hb : Below w.heap.size w W) (hg : W.grownBy W' v.ownBlock) : Below w.heap.size w W' :=
  hb.grown hg hb.size (fun k hk => Nat.le_trans hw (h.o2.lt k hk).1)

theorem marks_bound {P : List ByteArray} (h : P.length ≤ 1048576) : 1 + P.length ≤ 9000000 := by omega
end Go.Proofs.YthoffbibaimjlaaDoor
