/- Contracts of single functions, and plain lemmas, on which the exact laws of this seat rest; each holds under the conditions that it states. -/
import Derived.Test.YthoffbibaimjlaaDoorSu
import Derived.Test.YthoffbibaimjlaaDoorLf
import Derived.Test.YthoffbibaimjlaaDoorQc
import Derived.Test.YthoffbibaimjlaaDoorSp
import Derived.Test.YthoffbibaimjlaaDoorTa
import Derived.Test.YthoffbibaimjlaaDoorSc
import Derived.Test.YthoffbibaimjlaaDoorRc
import Derived.RegionTactic
import Derived.BigRegion
import Derived.Test.YthoffbibaimjlaaDoorD7
namespace Go.Proofs.YthoffbibaimjlaaDoor
set_option linter.unusedVariables false
open Go.RowKit


/-- the pixels that are done of a matrix that is being made -/
structure TuG (W : World) (t wd h : Nat) (g : Nat → Nat) (D : Nat → Nat → Prop) (f : Nat → Nat → Bool) : Prop where
  c : W.heap[t]? = some (.cells (mat wd h g) 44 (0, 0))
  lt : ∀ j, g j < 4294967296
  bit : ∀ j i, j < h → i < wd → D j i → (g j).testBit i = f j i
theorem TuG.below {W W' : World} {t wd h : Nat} {g : Nat → Nat} {D : Nat → Nat → Prop} {f : Nat → Nat → Bool} (H : TuG W t wd h g D f) (hb : Below W.heap.size W W') : TuG W' t wd h g D f :=
  ⟨(hb.block _ (Array.getElem?_eq_some_iff.1 H.c).1).trans H.c, H.lt, H.bit⟩
theorem TuG.imp {W : World} {t wd h : Nat} {g : Nat → Nat} {D D' : Nat → Nat → Prop} {f : Nat → Nat → Bool} (H : TuG W t wd h g D f) (hd : ∀ j i, j < h → i < wd → D' j i → D j i) : TuG W t wd h g D' f :=
  ⟨H.c, H.lt, fun j i hj hi h2 => H.bit j i hj hi (hd j i hj hi h2)⟩
theorem TuG.step {W W' : World} {t wd h : Nat} {g : Nat → Nat} {D D' : Nat → Nat → Prop} {f : Nat → Nat → Bool} {q p : Nat} {bk : Bool} (H : TuG W t wd h g D f) (hw : wd ≤ 16) (hc : W'.heap[t]? = some (.cells (mat wd h (updG g q p bk)) 44 (0, 0))) (hp : p < 16)
    (hbk : bk = f q p) (hD : ∀ j i, j < h → i < wd → D' j i → D j i ∨ (j = q ∧ i = p)) : TuG W' t wd h (updG g q p bk) D' f := by
  refine ⟨hc, upd_all H.lt q p bk hp, fun j i hj hi h2 => ?_⟩
  unfold updG
  by_cases h1 : j = q
  · subst h1
    rw [if_pos rfl, upd_bit _ _ _ _ hp (by omega)]
    by_cases h3 : i = p
    · subst h3; rw [if_pos rfl]; exact hbk
    · rw [if_neg h3]
      rcases hD j i hj hi h2 with h4 | h4
      · exact H.bit j i hj hi h4
      · exact absurd h4.2 h3
  · rw [if_neg h1]
    rcases hD j i hj hi h2 with h4 | h4
    · exact H.bit j i hj hi h4
    · exact absurd h4.1 h1
theorem TuG.pic {W : World} {t wd h : Nat} {g : Nat → Nat} {D : Nat → Nat → Prop} {f : Nat → Nat → Bool} (H : TuG W t wd h g D f) (hd : ∀ j i, j < h → i < wd → D j i) : mkPic wd h (fun y x => blackB wd h g x y) = mkPic wd h f :=
  mkPic_congr fun y hy x hx => by
    have hh : hasB wd h x y = true := by rw [hasB_insB]; exact in_range hx hy
    unfold blackB
    rw [hh, Bool.true_and, Int.toNat_natCast, Int.toNat_natCast]
    exact H.bit y x hy hx (hd y x hy hx)
theorem TuG.zero {W : World} {t wd h : Nat} {D : Nat → Nat → Prop} {f : Nat → Nat → Bool} (hc : W.heap[t]? = some (.cells (mcells wd h (fun _ => 0)) 44 (0, 0))) (hd : ∀ j i, ¬ D j i) : TuG W t wd h (fun _ => 0) D f :=
  ⟨hc, fun _ => by omega, fun j i _ _ h => absurd h (hd j i)⟩

theorem swap_facts {w1 W3 : World} {M X : Array Value} {t : TypeId} (hW : ((w1.alloc (.cells M t)).alloc (.cells X t)).drew = W3) :
    W3.heap[w1.heap.size]? = some (.cells M t (0, 0)) ∧ W3.heap[w1.heap.size + 1]? = some (.cells X t (0, 0)) ∧ Below w1.heap.size w1 W3 := by
  subst hW
  refine ⟨?_, ?_, (Joins.below_alloc2 w1 _ _).drew⟩
  · show ((w1.alloc (.cells M t)).alloc (.cells X t)).heap[w1.heap.size]? = _
    rw [Below.heap_alloc _ _ _ (by simp)]; exact heap_alloc_last w1 _
  · show ((w1.alloc (.cells M t)).alloc (.cells X t)).heap[w1.heap.size + 1]? = _
    exact heap_alloc2_new _ _ _
end Go.Proofs.YthoffbibaimjlaaDoor

/- Contracts of single functions, and plain lemmas, on which the exact laws of this seat rest; each holds under the conditions that it states. -/
namespace Go.Proofs.YthoffbibaimjlaaDoor
set_option linter.unusedVariables false
set_option linter.unusedSimpArgs false
open Go.RowKit

def spV (ss : List ByteArray) : List (Int × Int) := if validB ss then spL (pixF ss) (row0 ss).size ((row0 ss).size * ss.length) else []

set_option maxHeartbeats 1000000 in
set_option maxRecDepth 100000 in
theorem spec_Spots (v : Value) (ss : List ByteArray) (w : World) (hN : ss.length ≤ maxLen) (hz : ∀ s ∈ ss, s.size ≤ maxLen) (hv : Sl w v ss) :
    Calls Tryd.prog 10 #[.agg #[v]] w (SaysSp (spV ss) (validB ss) w) := by
  have hb0 := Joins.below_alloc1 w (.cells #[v] 27)
  have hc0 : (w.alloc (.cells #[v] 27)).cell? ⟨w.heap.size, 0, none⟩ = some v := by rw [World.cell?_alloc_mark]; rfl
  have C := Lib.hid (l01Is_any w.heap.size 0 v ss (w.alloc (.cells #[v] 27)) hc0 (hv.below hb0) hN hz)
  cases hok : validB ss with
  | false =>
    have e1 : Hid (spV ss = []) := by show spV ss = _; unfold spV; rw [hok]; rfl
    have HOk := Lib.hid hok
    clear hok hv hc0 hb0
    go_enter Tryd.func10, Tryd.ntmps10
    go_wp2_with fail
    refine C.out.mono ?_
    rintro e w' ⟨rfl, hb⟩
    rw [HOk.out]
    have HB := Lib.hid hb
    clear hb
    go_wp2_with fail
    go_ret2
    rw [e1.out]
    exact ⟨_, _, _, rfl, World.ownsRow_nil _ _ _ _, (Joins.below_alloc1 w _).trans (HB.out.mono (by simp))⟩
  | true =>
    have hp : Hid (∀ W, Below (w.alloc (.cells #[v] 27)).heap.size (w.alloc (.cells #[v] 27)) W → PicAt W w.heap.size 0 ss) := fun W hb =>
      ⟨hok, v, cell_kept hb hc0, (hv.below hb0).below hb⟩
    have HOk := Lib.hid hok
    have e1 : Hid (spV ss = spL (pixF ss) (row0 ss).size ((row0 ss).size * ss.length)) := by show spV ss = _; unfold spV; rw [hok]; rfl
    clear hok hv hc0 hb0
    go_enter Tryd.func10, Tryd.ntmps10
    go_wp2_with fail
    refine C.out.mono ?_
    rintro e w' ⟨rfl, hb⟩
    rw [HOk.out]
    have HB := Lib.hid hb
    clear hb
    go_wp2_with fail
    refine (l01Spots_any w.heap.size 0 ss _ (hp.out _ HB.out)).mono ?_
    rintro e w2 ⟨v2, rfl, ⟨ao, n, cap, rfl⟩, hown, hb2⟩
    have B1 : Below w.heap.size w w' := (Joins.below_alloc1 w _).trans (HB.out.mono (by simp))
    have hs := B1.size
    have B2 := Lib.hid (B1.trans (hb2.mono hs))
    have O2 : Hid (OwnS w2 w.heap.size (.slice ao n cap) (spV ss)) := by
      show OwnS _ _ _ _
      rw [e1.out]
      exact Joins.ownsRow_le hown hs
    clear hown hb2 B1 hs
    go_wp2_with fail
    go_ret2
    exact ⟨_, _, _, rfl, O2.out, B2.out⟩
end Go.Proofs.YthoffbibaimjlaaDoor

/- Contracts of single functions, and plain lemmas, on which the exact laws of this seat rest; each holds under the conditions that it states. -/
namespace Go.Proofs.YthoffbibaimjlaaDoor
set_option linter.unusedVariables false
set_option linter.unusedSimpArgs false
open Go.RowKit

set_option maxHeartbeats 2000000 in
set_option maxRecDepth 100000 in
theorem impl_Spots_no (v : Value) (ss : List ByteArray) (w : World) (hN : ss.length ≤ maxLen) (hz : ∀ s ∈ ss, s.size ≤ maxLen) (hv : Sl w v ss) (he : ErrLen w) (hok : validB ss = false) :
    Calls Tryd.prog 11 #[.agg #[v]] w (SaysSp [] false w) := by
  have hb0 := Joins.below_alloc1 w (.cells #[v] 27)
  have C := Lib.hid (matrixOf_any v ss (w.alloc (.cells #[v] 27)) hN hz (hv.below hb0) (he.below hb0))
  have hsz := matC_size ss
  have hone := matC_one ss
  unfold MatOf at C
  obtain ⟨M, hM⟩ : ∃ M, matC ss = M := ⟨_, rfl⟩
  rw [hM] at C hsz hone
  have HI : Hid ((Tryd.prog.info? 44).map (·.size) = some M.size) := by show _ = _; rw [hsz]; exact infoM
  have HZ := Lib.hid (zeros_size.trans hsz.symm)
  have HO := Lib.hid hone
  have HOk := Lib.hid hok
  clear hM hsz hone hb0 hv he hok
  go_enter Tryd.func11, Tryd.ntmps11
  go_wp2_with fail
  refine C.out.mono ?_
  rintro e w1 ⟨rfl, hb⟩
  rw [HOk.out]
  have HB := Lib.hid hb
  clear hb
  go_wp2_with (refine wpList_store_row rfl 44 _ _ rfl w1.heap.size M rfl rfl 44 zeros (heap_alloc_last w1 _) HI.out HZ.out HO.out ?_)
  go_ret2
  have h1 : Below w.heap.size w w1 := (Joins.below_alloc1 w _).trans (HB.out.mono (by simp))
  exact ⟨_, _, _, rfl, World.ownsRow_nil _ _ _ _, setRow_below (h1.alloc h1.size _) h1.size _⟩

set_option maxHeartbeats 4000000 in
set_option maxRecDepth 100000 in
theorem impl_Spots_yes (v : Value) (ss : List ByteArray) (w : World) (hN : ss.length ≤ maxLen) (hz : ∀ s ∈ ss, s.size ≤ maxLen) (hv : Sl w v ss) (he : ErrLen w) (hok : validB ss = true) :
    Calls Tryd.prog 11 #[.agg #[v]] w (SaysSp (spL (pixF ss) (row0 ss).size ((row0 ss).size * ss.length)) true w) := by
  have hb0 := Joins.below_alloc1 w (.cells #[v] 27)
  have C := Lib.hid (matrixOf_any v ss (w.alloc (.cells #[v] 27)) hN hz (hv.below hb0) (he.below hb0))
  have CB := Lib.hid (fun W => blacks_any ss W hok)
  have hsz := matC_size ss
  have hone := matC_one ss
  unfold MatOf at C
  obtain ⟨M, hM⟩ : ∃ M, matC ss = M := ⟨_, rfl⟩
  rw [hM] at C hsz hone CB
  have HI : Hid ((Tryd.prog.info? 44).map (·.size) = some M.size) := by show _ = _; rw [hsz]; exact infoM
  have HZ := Lib.hid (zeros_size.trans hsz.symm)
  have HO := Lib.hid hone
  have HOk := Lib.hid hok
  obtain ⟨xs, hxs⟩ : ∃ xs, spL (pixF ss) (row0 ss).size ((row0 ss).size * ss.length) = xs := ⟨_, rfl⟩
  rw [hxs] at CB ⊢
  clear hM hsz hone hb0 hv he hok hxs
  go_enter Tryd.func11, Tryd.ntmps11
  go_wp2_with fail
  refine C.out.mono ?_
  rintro e w1 ⟨rfl, hb⟩
  rw [HOk.out]
  have B1 : Hid (Below w.heap.size w w1) := (Joins.below_alloc1 w (.cells #[v] 27)).trans (hb.mono (by simp))
  have hs1 := B1.out.size
  have hm0 : (w1.alloc (.cells M 44)).heap[w1.heap.size]? = some (.cells M 44 (0, 0)) := heap_alloc_last w1 _
  have HM0 := Lib.hid hm0
  have B2 := Lib.hid (B1.out.alloc hs1 (.cells M 44))
  clear hb hm0
  go_wp2_with (first | refine wpList_store_new w1 rfl 44 _ _ rfl M rfl rfl 44 zeros HI.out HZ.out HO.out ?_ | refine wpList_load_row rfl 44 _ rfl w1.heap.size rfl 44 M (0, 0) _ HM0.out Tryd.underlying44 rfl HI.out ?_)
  refine (CB.out _).mono ?_
  rintro e w4 ⟨ao, n, cap, rfl, hown, hb4⟩
  have B4 := Lib.hid (B2.out.trans (hb4.mono B2.out.size))
  have HO4 := Lib.hid (Joins.ownsRow_le hown B2.out.size)
  clear hown hb4
  go_wp2
  go_ret2
  exact ⟨_, _, _, rfl, HO4.out, B4.out⟩

theorem impl_Spots (v : Value) (ss : List ByteArray) (w : World) (hN : ss.length ≤ maxLen) (hz : ∀ s ∈ ss, s.size ≤ maxLen) (hv : Sl w v ss) (he : ErrLen w) :
    Calls Tryd.prog 11 #[.agg #[v]] w (SaysSp (spV ss) (validB ss) w) := by
  unfold spV
  cases hok : validB ss with
  | false => exact impl_Spots_no v ss w hN hz hv he hok
  | true => exact impl_Spots_yes v ss w hN hz hv he hok
end Go.Proofs.YthoffbibaimjlaaDoor

