/- Contracts of single functions, and plain lemmas, on which the exact laws of this seat rest; each holds under the conditions that it states. -/
import Derived.Test.YtaopdhncapoefaaDoorSu
import Derived.Test.YtaopdhncapoefaaDoorLf
import Derived.Test.YtaopdhncapoefaaDoorQc
import Derived.Test.YtaopdhncapoefaaDoorPb
import Derived.Test.YtaopdhncapoefaaDoorTa
import Derived.Test.YtaopdhncapoefaaDoorSc
import Derived.Test.YtaopdhncapoefaaDoorRc
import Derived.RegionTactic
import Derived.BigRegion
namespace Go.Proofs.YtaopdhncapoefaaDoor
set_option linter.unusedVariables false
open Go.RowKit


/-- the pixels that are done of a matrix that is being made -/
structure TuG (W : World) (t wd h : Nat) (g : Nat → Nat) (D : Nat → Nat → Prop) (f : Nat → Nat → Bool) : Prop where
  c : W.heap[t]? = some (.cells (mat wd h g) 58 (0, 0))
  lt : ∀ j, g j < 4294967296
  bit : ∀ j i, j < h → i < wd → D j i → (g j).testBit i = f j i
theorem TuG.below {W W' : World} {t wd h : Nat} {g : Nat → Nat} {D : Nat → Nat → Prop} {f : Nat → Nat → Bool} (H : TuG W t wd h g D f) (hb : Below W.heap.size W W') : TuG W' t wd h g D f :=
  ⟨(hb.block _ (Array.getElem?_eq_some_iff.1 H.c).1).trans H.c, H.lt, H.bit⟩
theorem TuG.imp {W : World} {t wd h : Nat} {g : Nat → Nat} {D D' : Nat → Nat → Prop} {f : Nat → Nat → Bool} (H : TuG W t wd h g D f) (hd : ∀ j i, j < h → i < wd → D' j i → D j i) : TuG W t wd h g D' f :=
  ⟨H.c, H.lt, fun j i hj hi h2 => H.bit j i hj hi (hd j i hj hi h2)⟩
theorem TuG.step {W W' : World} {t wd h : Nat} {g : Nat → Nat} {D D' : Nat → Nat → Prop} {f : Nat → Nat → Bool} {q p : Nat} {bk : Bool} (H : TuG W t wd h g D f) (hw : wd ≤ 16) (hc : W'.heap[t]? = some (.cells (mat wd h (updG g q p bk)) 58 (0, 0))) (hp : p < 16)
    (hbk : bk = f q p) (hD : ∀ j i, j < h → i < wd → D' j i → D j i ∨ (j = q ∧ i = p)) : TuG W' t wd h (updG g q p bk) D' f := by
  refine ⟨hc, upd_all H.lt q p bk hp, fun j i hj hi h2 => ?_⟩
  unfold updG
  by_cases h1 : j = q
  · subst h1
    rw [if_pos rfl, upd_bit _ _ _ _ hp (by omega)]
    by_cases h3 : i = p
    · subst h3; rw [if_pos rfl]; exact hbk
    · rw [if_neg h3]
      rcases hD j i hj hi h2 with h4 | h4
      · exact H.bit j i hj hi h4
      · exact absurd h4.2 h3
  · rw [if_neg h1]
    rcases hD j i hj hi h2 with h4 | h4
    · exact H.bit j i hj hi h4
    · exact absurd h4.1 h1
theorem TuG.pic {W : World} {t wd h : Nat} {g : Nat → Nat} {D : Nat → Nat → Prop} {f : Nat → Nat → Bool} (H : TuG W t wd h g D f) (hd : ∀ j i, j < h → i < wd → D j i) : mkPic wd h (fun y x => blackB wd h g x y) = mkPic wd h f :=
  mkPic_congr fun y hy x hx => by
    have hh : hasB wd h x y = true := by rw [hasB_insB]; exact in_range hx hy
    unfold blackB
    rw [hh, Bool.true_and, Int.toNat_natCast, Int.toNat_natCast]
    exact H.bit y x hy hx (hd y x hy hx)
theorem TuG.zero {W : World} {t wd h : Nat} {D : Nat → Nat → Prop} {f : Nat → Nat → Bool} (hc : W.heap[t]? = some (.cells (mcells wd h (fun _ => 0)) 58 (0, 0))) (hd : ∀ j i, ¬ D j i) : TuG W t wd h (fun _ => 0) D f :=
  ⟨hc, fun _ => by omega, fun j i _ _ h => absurd h (hd j i)⟩

theorem swap_facts {w1 W3 : World} {M X : Array Value} {t : TypeId} (hW : ((w1.alloc (.cells M t)).alloc (.cells X t)).drew = W3) :
    W3.heap[w1.heap.size]? = some (.cells M t (0, 0)) ∧ W3.heap[w1.heap.size + 1]? = some (.cells X t (0, 0)) ∧ Below w1.heap.size w1 W3 := by
  subst hW
  refine ⟨?_, ?_, (Joins.below_alloc2 w1 _ _).drew⟩
  · show ((w1.alloc (.cells M t)).alloc (.cells X t)).heap[w1.heap.size]? = _
    rw [Below.heap_alloc _ _ _ (by simp)]; exact heap_alloc_last w1 _
  · show ((w1.alloc (.cells M t)).alloc (.cells X t)).heap[w1.heap.size + 1]? = _
    exact heap_alloc2_new _ _ _
end Go.Proofs.YtaopdhncapoefaaDoor

/- Contracts of single functions, and plain lemmas, on which the exact laws of this seat rest; each holds under the conditions that it states. -/
namespace Go.Proofs.YtaopdhncapoefaaDoor
set_option linter.unusedVariables false
set_option linter.unusedSimpArgs false
open Go.RowKit

def spV (ss : List ByteArray) : List (Int × Int) := if validB ss then spL (pixF ss) (row0 ss).size ((row0 ss).size * ss.length) else []

end Go.Proofs.YtaopdhncapoefaaDoor
