/- Contracts of single functions, and plain lemmas, on which the exact laws of this seat rest; each holds under the conditions that it states. -/
import Derived.Test.YthoffbibaimjlaaDoorBq
namespace Go.Proofs.YthoffbibaimjlaaDoor
set_option linter.unusedVariables false
open Go.RowKit

/-- want, the argument's copy and got: each in a variable of its own, made one after the other -/
structure ThreePics (W : World) (b1 b2 b3 lo h2 h3 : Nat) (u v x : Value) (xs ys zs : List ByteArray) : Prop where
  c1 : W.heap[b1]? = some (.cells #[u] 27 (0, 0))
  c2 : W.heap[b2]? = some (.cells #[v] 27 (0, 0))
  c3 : W.heap[b3]? = some (.cells #[x] 27 (0, 0))
  o1 : OwnP W lo u xs
  o2 : OwnP W h2 v ys
  o3 : OwnP W h3 x zs
  lt1 : ∀ j, u.ownBlock = some j → j < h2
  lt2 : ∀ j, v.ownBlock = some j → j < h3
  le : h2 ≤ h3

variable {W W' : World} {b1 b2 b3 lo h2 h3 : Nat} {u v x : Value} {xs ys zs ms : List ByteArray}
theorem ThreePics.below (h : ThreePics W b1 b2 b3 lo h2 h3 u v x xs ys zs) (hb : Below W.heap.size W W') : ThreePics W' b1 b2 b3 lo h2 h3 u v x xs ys zs :=
  ⟨(hb.block _ (Array.getElem?_eq_some_iff.1 h.c1).1).trans h.c1, (hb.block _ (Array.getElem?_eq_some_iff.1 h.c2).1).trans h.c2, (hb.block _ (Array.getElem?_eq_some_iff.1 h.c3).1).trans h.c3, own_below h.o1 hb, own_below h.o2 hb, own_below h.o3 hb, h.lt1, h.lt2, h.le⟩

theorem ThreePics.mark2 (h : ThreePics W b1 b2 b3 lo h2 h3 u v x xs ys zs) (ho : OwnP W' h2 v ms) (hg : W.grownBy W' v.ownBlock) : ThreePics W' b1 b2 b3 lo h2 h3 u v x xs ms zs :=
  ⟨var_far h.c1 h.o2 (by decide) hg, var_far h.c2 h.o2 (by decide) hg, var_far h.c3 h.o2 (by decide) hg, own_apart (k := 0) h.o1 h.o2 h.lt1 hg, ho, own_apart' h.o3 h.o2 h.lt2 hg, h.lt1, h.lt2, h.le⟩
theorem ThreePics.mark3 (h : ThreePics W b1 b2 b3 lo h2 h3 u v x xs ys zs) (ho : OwnP W' h3 x ms) (hg : W.grownBy W' x.ownBlock) : ThreePics W' b1 b2 b3 lo h2 h3 u v x xs ys ms :=
  ⟨var_far h.c1 h.o3 (by decide) hg, var_far h.c2 h.o3 (by decide) hg, var_far h.c3 h.o3 (by decide) hg, own_apart (k := 0) h.o1 h.o3 (fun j hj => Nat.lt_of_lt_of_le (h.lt1 j hj) h.le) hg, own_apart (k := 0) h.o2 h.o3 h.lt2 hg, ho, h.lt1, h.lt2, h.le⟩
theorem ThreePics.v1 (h : ThreePics W b1 b2 b3 lo h2 h3 u v x xs ys zs) : W.cell? ⟨b1, 0, none⟩ = some u := cell_of_one h.c1
theorem ThreePics.v2 (h : ThreePics W b1 b2 b3 lo h2 h3 u v x xs ys zs) : W.cell? ⟨b2, 0, none⟩ = some v := cell_of_one h.c2
theorem ThreePics.v3 (h : ThreePics W b1 b2 b3 lo h2 h3 u v x xs ys zs) : W.cell? ⟨b3, 0, none⟩ = some x := cell_of_one h.c3
theorem ThreePics.grow2 {w : World} (h : ThreePics W b1 b2 b3 lo h2 h3 u v x xs ys zs) (hw : w.heap.size ≤ h2) (hb : Below w.heap.size w W) (hg : W.grownBy W' v.ownBlock) : Below w.heap.size w W' :=
  hb.grown hg hb.size (fun k hk => Nat.le_trans hw (h.o2.lt k hk).1)
theorem ThreePics.grow3 {w : World} (h : ThreePics W b1 b2 b3 lo h2 h3 u v x xs ys zs) (hw : w.heap.size ≤ h2) (hb : Below w.heap.size w W) (hg : W.grownBy W' x.ownBlock) : Below w.heap.size w W' :=
  hb.grown hg hb.size (fun k hk => Nat.le_trans (Nat.le_trans hw h.le) (h.o3.lt k hk).1)

/-- the third picture comes -/
theorem ThreePics.mk' {w2 w3 : World} {P Q : List ByteArray} (h : TwoPics (w2.alloc (.cells #[v] 27)) b1 b2 lo h2 u v P Q) (hle : h2 ≤ (w2.alloc (.cells #[v] 27)).heap.size) (h3' : OwnP w3 (w2.alloc (.cells #[v] 27)).heap.size x zs) (hb : Below (w2.alloc (.cells #[v] 27)).heap.size (w2.alloc (.cells #[v] 27)) w3) :
    ThreePics (w3.alloc (.cells #[x] 27)) b1 b2 w3.heap.size lo h2 (w2.heap.size + 1) u v x P Q zs := by
  have hb2 := hb.trans ((Joins.below_alloc1 w3 (.cells #[x] 27)).mono hb.size)
  have h' := h.below hb2
  refine ⟨h'.c1, h'.c2, heap_alloc_last w3 _, h'.o1, h'.o2, ?_, h.lt, fun j hj => ?_, by simpa using hle⟩
  · have := h3'.alloc (.cells #[x] 27)
    unfold OwnP
    simpa using this
  · have := (h.o2.lt j hj).2
    simpa using this
end Go.Proofs.YthoffbibaimjlaaDoor
