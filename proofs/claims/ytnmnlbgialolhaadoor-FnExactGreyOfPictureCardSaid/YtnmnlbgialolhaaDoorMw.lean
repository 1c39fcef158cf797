/- Contracts of single functions, and plain lemmas, on which the exact laws of this seat rest; each holds under the conditions that it states. -/
import Derived.Test.YtnmnlbgialolhaaDoorWd
import Derived.Test.YtnmnlbgialolhaaDoorHd
import Derived.Laws.IdiomStrings
import Derived.Deep.WholeRow
import Derived.OwnWalk
import Derived.OneCell
namespace Go.Proofs.YtnmnlbgialolhaaDoor
set_option linter.unusedVariables false
open Go.RowKit

/-- a valid picture lies behind the pointer -/
structure PicAt (w : World) (pb po : Nat) (ss : List ByteArray) : Prop where
  ok : validB ss = true
  cell : ∃ v, w.cell? ⟨pb, po, none⟩ = some v ∧ Sl w v ss

structure VP (ss : List ByteArray) : Prop where
  n1 : 1 ≤ ss.length
  n16 : ss.length ≤ 16
  w1 : 1 ≤ (row0 ss).size
  w16 : (row0 ss).size ≤ 16
  rows : ∀ j, j < ss.length → (ss.getD j ByteArray.empty).size = (row0 ss).size ∧ ∀ (i : Nat) (hi : i < (ss.getD j ByteArray.empty).size), pixB ((ss.getD j ByteArray.empty)[i]'hi) = true

theorem vp_of {ss : List ByteArray} (h : validB ss = true) : VP ss := by
  unfold validB at h
  simp only [Bool.and_eq_true, decide_eq_true_eq] at h
  obtain ⟨⟨⟨⟨h1, h2⟩, h3⟩, h4⟩, h5⟩ := h
  refine ⟨h1, h2, h3, h4, fun j hj => ?_⟩
  rw [List.all_eq_true] at h5
  have := h5 _ (List.getElem_mem hj)
  have e : ss.getD j ByteArray.empty = ss[j] := by rw [List.getD_eq_getElem?_getD, List.getElem?_eq_getElem hj]; rfl
  unfold rowB at this
  simp only [Bool.and_eq_true, decide_eq_true_eq] at this
  refine ⟨by rw [e]; exact this.1, fun i hi => ?_⟩
  have h6 := this.2
  rw [List.all_eq_true] at h6
  have hm : (ss.getD j ByteArray.empty)[i] ∈ ss[j].data.toList := by rw [← e]; exact Array.mem_toList_iff.2 (Array.getElem_mem _)
  exact h6 _ hm

theorem PicAt.open' {w : World} {pb po : Nat} {ss : List ByteArray} (h : PicAt w pb po ss) : ∃ b off cap, w.cell? ⟨pb, po, none⟩ = some (.slice (some ⟨b, off, none⟩) ss.length cap) ∧ Strs w b off ss ∧ VP ss := by
  obtain ⟨hok, v, hc, hs⟩ := h
  have V := vp_of hok
  rcases hs with ⟨ao, cap, rfl, rfl⟩ | ⟨b, off, cap, rfl, hpos, hst⟩
  · exact absurd V.n1 (by simp)
  · exact ⟨b, off, cap, hc, hst, V⟩

theorem PicAt.below {w w' : World} {pb po : Nat} {ss : List ByteArray} (h : PicAt w pb po ss) (hb : Below w.heap.size w w') : PicAt w' pb po ss := by
  obtain ⟨hok, v, hc, hs⟩ := h
  exact ⟨hok, v, cell_kept hb hc, hs.below hb⟩
end Go.Proofs.YtnmnlbgialolhaaDoor

/- Contracts of single functions, and plain lemmas, on which the exact laws of this seat rest; each holds under the conditions that it states. -/
namespace Go.Proofs.YtnmnlbgialolhaaDoor
set_option linter.unusedVariables false
open Go.RowKit

/-! ### pictures made of pixels -/
def mkRow (f : Nat → Bool) (n : Nat) : List UInt8 := (List.range n).map fun x => if f x then 35 else 46
theorem mkRow_len (f : Nat → Bool) (n : Nat) : (mkRow f n).length = n := by simp [mkRow]
theorem mkRow_snoc (f : Nat → Bool) (n : Nat) : mkRow f (n + 1) = mkRow f n ++ [if f n then 35 else 46] := by simp [mkRow, List.range_succ]
def rowOf (f : Nat → Bool) (n : Nat) : ByteArray := ⟨(mkRow f n).toArray⟩
def mkPic (wd h : Nat) (f : Nat → Nat → Bool) : List ByteArray := (List.range h).map fun y => rowOf (f y) wd
theorem mkPic_len (wd h : Nat) (f : Nat → Nat → Bool) : (mkPic wd h f).length = h := by simp [mkPic]
theorem mkPic_snoc (wd h : Nat) (f : Nat → Nat → Bool) : mkPic wd (h + 1) f = mkPic wd h f ++ [rowOf (f h) wd] := by simp [mkPic, List.range_succ]

def bytesV (l : List UInt8) : List Value := l.map fun c => .int .u8 c.toNat
theorem bytesV_snoc (l : List UInt8) (c : UInt8) : bytesV (l ++ [c]) = bytesV l ++ [.int .u8 c.toNat] := by simp [bytesV]
theorem bytesV_len (l : List UInt8) : (bytesV l).length = l.length := by simp [bytesV]

theorem Tryd.info5 : (Tryd.prog.info? 5).map (fun i => (i.zero, i.size, i.bytes)) = some (some (.int .u8 0), 1, 1) := by kernel_rfl

/-- the bools bs lie there -/
def Bools (w : World) (b off : Nat) (bs : List Bool) : Prop := b < w.heap.size ∧ ∀ i, i < bs.length → w.cell? ⟨b, off + i, none⟩ = some (.bool (bs.getD i false))
theorem Bools.below {w w' : World} {b off : Nat} {bs : List Bool} (h : Bools w b off bs) (hb : Below w.heap.size w w') : Bools w' b off bs :=
  ⟨Nat.lt_of_lt_of_le h.1 hb.size, fun i hi => cell_kept' hb (h.2 i hi)⟩
where cell_kept' {w w1 : World} {b o : Nat} {v : Value} (hb : Below w.heap.size w w1) (h : w.cell? ⟨b, o, none⟩ = some v) : w1.cell? ⟨b, o, none⟩ = some v := (hb.cell (p := ⟨b, o, none⟩) (blk_lt h)).trans h

/-- a row of bytes is kept while another owned row of another type grows -/
theorem own_far {w w' : World} {base base2 n n2 : Nat} {e e2 : TypeId} {s s2 : Nat} {v v2 : Value} {xs xs2 : List Value} (h : w.ownsRow base e s v n xs) (h2 : w.ownsRow base2 e2 s2 v2 n2 xs2) (he : e ≠ e2) (hg : w.grownBy w' v2.ownBlock) : w'.ownsRow base e s v n xs := by
  refine h.kept hg ?_
  rcases h.2 with ⟨hv, _⟩ | ⟨g, cap, cur, hv, _, hg1, _⟩
  · left; subst hv; rfl
  · right
    subst hv
    rcases h2.2 with ⟨hv2, _⟩ | ⟨g2, cap2, cur2, hv2, _, hg2, _⟩
    · subst hv2; simp [Value.ownBlock]
    · subst hv2
      simp only [Value.ownBlock]
      intro e1
      have e1 := Option.some.inj e1
      subst e1
      rw [hg1] at hg2
      simp at hg2
      exact he hg2.2

/-- a variable of the call's own (a block of another type) is kept while an owned row grows -/
theorem var_far {w w' : World} {base2 n2 : Nat} {e2 t : TypeId} {s2 P : Nat} {v2 : Value} {xs2 : List Value} {cs : Array Value} (h : w.heap[P]? = some (.cells cs t (0, 0))) (h2 : w.ownsRow base2 e2 s2 v2 n2 xs2) (he : t ≠ e2) (hg : w.grownBy w' v2.ownBlock) : w'.heap[P]? = some (.cells cs t (0, 0)) := by
  rw [hg.block P (Array.getElem?_eq_some_iff.1 h).1 ?_]; exact h
  rcases h2.2 with ⟨hv2, _⟩ | ⟨g2, cap2, cur2, hv2, _, hg2, _⟩
  · subst hv2; simp [Value.ownBlock]
  · subst hv2
    simp only [Value.ownBlock]
    intro e1
    have e1 := Option.some.inj e1
    subst e1
    rw [h] at hg2
    simp at hg2
    exact he hg2.2

/-- a variable's block is not the owned row's block -/
theorem own_ne {w : World} {base n : Nat} {e t : TypeId} {s P : Nat} {v : Value} {xs : List Value} {cs : Array Value} (h : w.ownsRow base e s v n xs) (hP : w.heap[P]? = some (.cells cs t (0, 0))) (he : t ≠ e) : v.ownBlock ≠ some P := by
  rcases h.2 with ⟨hv, _⟩ | ⟨g, cap, cur, hv, _, hg, _⟩
  · subst hv; simp [Value.ownBlock]
  · subst hv
    simp only [Value.ownBlock]
    intro e1
    have e1 := Option.some.inj e1
    subst e1
    rw [hP] at hg
    simp at hg
    exact he hg.2

theorem make_step {w wr w1 : World} {P Hb x : Nat} {rv v pv hv : Value} {xs : List Value} {ss : List ByteArray} {X : Obj}
    (hown : wr.ownsRow w.heap.size 5 1 rv x xs) (hP : wr.heap[P]? = some (.cells #[pv] 26 (0, 0))) (hrows : OwnP wr w.heap.size v ss) (hH : wr.heap[Hb]? = some (.cells #[hv] 26 (0, 0))) (hbel : Below w.heap.size w wr)
    (h3 : (wr.alloc X).grownBy w1 rv.ownBlock) :
    w1.heap[P]? = some (.cells #[pv] 26 (0, 0)) ∧ OwnP w1 w.heap.size v ss ∧ w1.heap[Hb]? = some (.cells #[hv] 26 (0, 0)) ∧ Below w.heap.size w w1 := by
  have o1 := hown.alloc X
  have s := hbel.size
  refine ⟨var_far (by rw [Below.heap_alloc _ _ _ (Array.getElem?_eq_some_iff.1 hP).1]; exact hP) o1 (by decide) h3, own_far (hrows.alloc X) o1 (by decide) h3, var_far (by rw [Below.heap_alloc _ _ _ (Array.getElem?_eq_some_iff.1 hH).1]; exact hH) o1 (by decide) h3, (hbel.alloc s X).grown h3 (by simp; omega) (fun k hk => (o1.lt k hk).1)⟩
theorem own_below {w w' : World} {base n s : Nat} {e : TypeId} {v : Value} {xs : List Value} (h : w.ownsRow base e s v n xs) (hb : Below w.heap.size w w') : w'.ownsRow base e s v n xs := by
  obtain ⟨h1, h2⟩ := h
  refine ⟨h1, ?_⟩
  rcases h2 with h2 | ⟨g, cap, cur, hv, hg, hh, r⟩
  · exact Or.inl h2
  · exact Or.inr ⟨g, cap, cur, hv, hg, (hb.block g (Array.getElem?_eq_some_iff.1 hh).1).trans hh, r⟩

/-- two rows that the call owns, one made after the other: the elder is kept while the younger grows -/
theorem own_apart {w w' : World} {base base2 n n2 s s2 k : Nat} {e e2 : TypeId} {v v2 : Value} {xs xs2 : List Value} (h : w.ownsRow base e s v n xs) (h2 : w.ownsRow base2 e2 s2 v2 n2 xs2) (hk : ∀ j, v.ownBlock = some j → j < base2) (hg : w.grownBy w' v2.ownBlock) : w'.ownsRow base e s v n xs := by
  refine h.kept hg ?_
  rcases h1 : v.ownBlock with _ | j
  · left; rfl
  · right
    intro e1
    exact absurd (h2.lt j e1.symm).1 (by have := hk j h1; omega)

/-- a younger row is kept while an elder one is marked -/
theorem own_apart' {w w' : World} {base base2 n n2 s s2 : Nat} {e e2 : TypeId} {v v2 : Value} {xs xs2 : List Value} (h : w.ownsRow base e s v n xs) (h2 : w.ownsRow base2 e2 s2 v2 n2 xs2) (hk : ∀ j, v2.ownBlock = some j → j < base) (hg : w.grownBy w' v2.ownBlock) : w'.ownsRow base e s v n xs := by
  refine h.kept hg ?_
  rcases h1 : v.ownBlock with _ | j
  · left; rfl
  · right
    intro e1
    exact absurd (h.lt j h1).1 (by have := hk j e1.symm; omega)
end Go.Proofs.YtnmnlbgialolhaaDoor
