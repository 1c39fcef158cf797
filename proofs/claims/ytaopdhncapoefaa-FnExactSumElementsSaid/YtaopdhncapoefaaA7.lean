/- Contracts of single functions, and plain lemmas, on which the exact laws of this seat rest; each holds under the conditions that it states. -/
import Derived.Test.YtaopdhncapoefaaA6
namespace Go.Proofs.Ytaopdhncapoefaa
set_option linter.unusedVariables false
set_option linter.unusedSimpArgs false
open Go.RowKit

theorem eqElement_same (u v : Value) (xs : List (Int × Int)) (w : World) (hN : xs.length ≤ 1048576) (hu : SlS w u xs) (hv : SlS w v xs) :
    Calls Try.prog 10 #[.agg #[u], .agg #[v]] w (SaysB true w) := by
  have C := Lib.hid (fun w' (hb : Below w.heap.size w w') => eqSpotS_same u v xs w' hN (hu.below hb) (hv.below hb))
  clear hu hv
  go_enter Try.func10, Try.ntmps10
  go_wp2_with fail
  refine (C.out _ (Joins.below_alloc2 w _ _)).mono ?_
  rintro e w' ⟨rfl, hb⟩
  have HB := Lib.hid hb
  clear hb
  go_wp2_with fail
  go_ret
  exact ⟨rfl, (Joins.below_alloc2 w _ _).trans (HB.out.mono (by simp; omega))⟩

theorem grown_trans_alloc {w w' : World} {o : Obj} {row : Option Nat} (hg : (w.alloc o).grownBy w' row) : w.grownBy w' row := by
  refine ⟨hg.os, hg.tape, hg.output, Nat.le_trans (by simp) hg.size, fun j hj hr => ?_⟩
  rw [hg.block j (by simp; omega) hr]
  exact Below.heap_alloc _ _ _ hj
theorem markElement_any (v : Value) (xs : List (Int × Int)) (base k : Nat) (w : World) (h1 : 1 ≤ k) (h2 : k + xs.length * 2 ≤ 9000000) (hv : OwnS w base v xs) :
    Calls Try.prog 11 #[.agg #[v], .int .i64 k] w (MarkedS w base v k xs.length) := by
  obtain ⟨q, hq⟩ : ∃ q, v.ownBlock = q := ⟨_, rfl⟩
  have C := Lib.hid (markSpotS_any v xs base k (w.alloc (.cells #[v] 28)) h1 h2 (own_below hv (Joins.below_alloc1 w _)))
  unfold MarkedS at C ⊢
  rw [hq] at C ⊢
  clear hq hv
  go_enter Try.func11, Try.ntmps11
  go_wp2_with fail
  refine C.out.mono ?_
  rintro e w' ⟨rfl, hown, hg⟩
  have HO := Lib.hid hown
  have HG := Lib.hid hg
  clear hown hg
  go_wp2_with fail
  go_ret
  exact ⟨rfl, HO.out, grown_trans_alloc HG.out⟩

theorem heldElement_any (v : Value) (k n : Nat) (w : World) (h1 : 1 ≤ k) (h2 : k + n * 2 ≤ 9000000) (hv : SlS w v (marksS k n)) :
    Calls Try.prog 12 #[.agg #[v], .int .i64 k] w fun e w' => e = .returned (.int .i64 ((k + n * 2 : Nat) : Int)) ∧ Below w.heap.size w w' := by
  have C := Lib.hid (heldSpotS_any v k n (w.alloc (.cells #[v] 28)) h1 h2 (hv.below (Joins.below_alloc1 w _)))
  have hp : ¬ ((k + n * 2 : Nat) : Int) < 0 := by omega
  obtain ⟨r, hr⟩ : ∃ r : Int, ((k + n * 2 : Nat) : Int) = r := ⟨_, rfl⟩
  rw [hr] at C hp ⊢
  clear hr hv
  go_enter Try.func12, Try.ntmps12
  go_wp2_with fail
  refine C.out.mono ?_
  rintro e w' ⟨rfl, rfl⟩
  go_wp2_with fail
  go_ret
  exact ⟨rfl, Joins.below_alloc1 w _⟩

structure TwoEls (W : World) (b1 b2 lo hi : Nat) (u v : Value) (xs ys : List (Int × Int)) : Prop where
  c1 : W.heap[b1]? = some (.cells #[u] 28 (0, 0))
  c2 : W.heap[b2]? = some (.cells #[v] 28 (0, 0))
  o1 : OwnS W lo u xs
  o2 : OwnS W hi v ys
  lt : ∀ j, u.ownBlock = some j → j < hi

theorem TwoEls.below {W W' : World} {b1 b2 lo hi : Nat} {u v : Value} {xs ys : List (Int × Int)} (h : TwoEls W b1 b2 lo hi u v xs ys) (hb : Below W.heap.size W W') : TwoEls W' b1 b2 lo hi u v xs ys :=
  ⟨(hb.block _ (Array.getElem?_eq_some_iff.1 h.c1).1).trans h.c1, (hb.block _ (Array.getElem?_eq_some_iff.1 h.c2).1).trans h.c2, own_below h.o1 hb, own_below h.o2 hb, h.lt⟩
theorem TwoEls.marked {W W' : World} {b1 b2 lo hi : Nat} {u v : Value} {xs ys zs : List (Int × Int)} (h : TwoEls W b1 b2 lo hi u v xs ys) (ho : OwnS W' hi v zs) (hg : W.grownBy W' v.ownBlock) : TwoEls W' b1 b2 lo hi u v xs zs :=
  ⟨var_far h.c1 h.o2 (by decide) hg, var_far h.c2 h.o2 (by decide) hg, own_apart (k := 0) h.o1 h.o2 h.lt hg, ho, h.lt⟩
theorem TwoEls.v1 {W : World} {b1 b2 lo hi : Nat} {u v : Value} {xs ys : List (Int × Int)} (h : TwoEls W b1 b2 lo hi u v xs ys) : W.cell? ⟨b1, 0, none⟩ = some u := cell_of_one h.c1
theorem TwoEls.v2 {W : World} {b1 b2 lo hi : Nat} {u v : Value} {xs ys : List (Int × Int)} (h : TwoEls W b1 b2 lo hi u v xs ys) : W.cell? ⟨b2, 0, none⟩ = some v := cell_of_one h.c2

/-- want and got, each in a variable of its own, made one after the other -/
theorem TwoEls.mk' {w1 w2 : World} {lo : Nat} {u v : Value} {P : List (Int × Int)} (h1 : OwnS w1 lo u P) (h2 : OwnS w2 (w1.alloc (.cells #[u] 28)).heap.size v P) (hb2 : Below (w1.alloc (.cells #[u] 28)).heap.size (w1.alloc (.cells #[u] 28)) w2) :
    TwoEls (w2.alloc (.cells #[v] 28)) w1.heap.size w2.heap.size lo (w1.heap.size + 1) u v P P := by
  have hs := hb2.size
  simp at hs
  refine ⟨?_, heap_alloc_last w2 _, ?_, ?_, fun j hj => ?_⟩
  · rw [Below.heap_alloc _ _ _ (by omega), hb2.block _ (by simp)]; exact heap_alloc_last w1 _
  · exact (own_below (h1.alloc _) hb2).alloc _
  · have := h2.alloc (.cells #[v] 28)
    unfold OwnS
    simpa using this
  · have := (h1.lt j hj).2; omega

/-- want and got, each in a variable of its own (other rows), made one after the other -/
theorem TwoEls.mk2 {w1 w2 : World} {lo : Nat} {u v : Value} {P Q : List (Int × Int)} (h1 : OwnS w1 lo u P) (h2 : OwnS w2 (w1.alloc (.cells #[u] 28)).heap.size v Q) (hb2 : Below (w1.alloc (.cells #[u] 28)).heap.size (w1.alloc (.cells #[u] 28)) w2) :
    TwoEls (w2.alloc (.cells #[v] 28)) w1.heap.size w2.heap.size lo (w1.heap.size + 1) u v P Q := by
  have hs := hb2.size
  simp at hs
  refine ⟨?_, heap_alloc_last w2 _, ?_, ?_, fun j hj => ?_⟩
  · rw [Below.heap_alloc _ _ _ (by omega), hb2.block _ (by simp)]; exact heap_alloc_last w1 _
  · exact (own_below (h1.alloc _) hb2).alloc _
  · have := h2.alloc (.cells #[v] 28)
    unfold OwnS
    simpa using this
  · have := (h1.lt j hj).2; omega

theorem TwoEls.grow {w W W' : World} {b1 b2 lo hi : Nat} {u v : Value} {xs ys : List (Int × Int)} (h : TwoEls W b1 b2 lo hi u v xs ys) (hw : w.heap.size ≤ hi) (hb : Below w.heap.size w W) (hg : W.grownBy W' v.ownBlock) : Below w.heap.size w W' :=
  hb.grown hg hb.size (fun k hk => Nat.le_trans hw (h.o2.lt k hk).1)

end Go.Proofs.Ytaopdhncapoefaa
