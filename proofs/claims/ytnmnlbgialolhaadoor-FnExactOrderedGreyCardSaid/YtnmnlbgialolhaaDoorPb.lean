/- Contracts of single functions, and plain lemmas, on which the exact laws of this seat rest; each holds under the conditions that it states. -/
import Derived.Test.YtnmnlbgialolhaaDoorWd
import Derived.Laws.IdiomStrings
import Derived.Deep.WholeRow
import Derived.OwnWalk
import Derived.OneCell
import Derived.Test.YtnmnlbgialolhaaDoorMo
import Derived.Test.YtnmnlbgialolhaaDoorShelf
import Derived.Lib.BufferKept
import Derived.Lib.BufferOld
namespace Go.Proofs.YtnmnlbgialolhaaDoor
set_option linter.unusedVariables false
open Go.RowKit

/-- a valid picture lies behind the pointer -/
structure PicAt (w : World) (pb po : Nat) (ss : List ByteArray) : Prop where
  ok : validB ss = true
  cell : ∃ v, w.cell? ⟨pb, po, none⟩ = some v ∧ Sl w v ss

structure VP (ss : List ByteArray) : Prop where
  n1 : 1 ≤ ss.length
  n16 : ss.length ≤ 16
  w1 : 1 ≤ (row0 ss).size
  w16 : (row0 ss).size ≤ 16
  rows : ∀ j, j < ss.length → (ss.getD j ByteArray.empty).size = (row0 ss).size ∧ ∀ (i : Nat) (hi : i < (ss.getD j ByteArray.empty).size), pixB ((ss.getD j ByteArray.empty)[i]'hi) = true

theorem vp_of {ss : List ByteArray} (h : validB ss = true) : VP ss := by
  unfold validB at h
  simp only [Bool.and_eq_true, decide_eq_true_eq] at h
  obtain ⟨⟨⟨⟨h1, h2⟩, h3⟩, h4⟩, h5⟩ := h
  refine ⟨h1, h2, h3, h4, fun j hj => ?_⟩
  rw [List.all_eq_true] at h5
  have := h5 _ (List.getElem_mem hj)
  have e : ss.getD j ByteArray.empty = ss[j] := by rw [List.getD_eq_getElem?_getD, List.getElem?_eq_getElem hj]; rfl
  unfold rowB at this
  simp only [Bool.and_eq_true, decide_eq_true_eq] at this
  refine ⟨by rw [e]; exact this.1, fun i hi => ?_⟩
  have h6 := this.2
  rw [List.all_eq_true] at h6
  have hm : (ss.getD j ByteArray.empty)[i] ∈ ss[j].data.toList := by rw [← e]; exact Array.mem_toList_iff.2 (Array.getElem_mem _)
  exact h6 _ hm

theorem PicAt.open' {w : World} {pb po : Nat} {ss : List ByteArray} (h : PicAt w pb po ss) : ∃ b off cap, w.cell? ⟨pb, po, none⟩ = some (.slice (some ⟨b, off, none⟩) ss.length cap) ∧ Strs w b off ss ∧ VP ss := by
  obtain ⟨hok, v, hc, hs⟩ := h
  have V := vp_of hok
  rcases hs with ⟨ao, cap, rfl, rfl⟩ | ⟨b, off, cap, rfl, hpos, hst⟩
  · exact absurd V.n1 (by simp)
  · exact ⟨b, off, cap, hc, hst, V⟩

theorem PicAt.below {w w' : World} {pb po : Nat} {ss : List ByteArray} (h : PicAt w pb po ss) (hb : Below w.heap.size w w') : PicAt w' pb po ss := by
  obtain ⟨hok, v, hc, hs⟩ := h
  exact ⟨hok, v, cell_kept hb hc, hs.below hb⟩
end Go.Proofs.YtnmnlbgialolhaaDoor

/- Contracts of single functions, and plain lemmas, on which the exact laws of this seat rest; each holds under the conditions that it states. -/
namespace Go.Proofs.YtnmnlbgialolhaaDoor
set_option linter.unusedVariables false
open Go.RowKit

/-! ### pictures made of pixels -/
def mkRow (f : Nat → Bool) (n : Nat) : List UInt8 := (List.range n).map fun x => if f x then 35 else 46
theorem mkRow_len (f : Nat → Bool) (n : Nat) : (mkRow f n).length = n := by simp [mkRow]
theorem mkRow_snoc (f : Nat → Bool) (n : Nat) : mkRow f (n + 1) = mkRow f n ++ [if f n then 35 else 46] := by simp [mkRow, List.range_succ]
def rowOf (f : Nat → Bool) (n : Nat) : ByteArray := ⟨(mkRow f n).toArray⟩
def mkPic (wd h : Nat) (f : Nat → Nat → Bool) : List ByteArray := (List.range h).map fun y => rowOf (f y) wd
theorem mkPic_len (wd h : Nat) (f : Nat → Nat → Bool) : (mkPic wd h f).length = h := by simp [mkPic]
theorem mkPic_snoc (wd h : Nat) (f : Nat → Nat → Bool) : mkPic wd (h + 1) f = mkPic wd h f ++ [rowOf (f h) wd] := by simp [mkPic, List.range_succ]

def bytesV (l : List UInt8) : List Value := l.map fun c => .int .u8 c.toNat
theorem bytesV_snoc (l : List UInt8) (c : UInt8) : bytesV (l ++ [c]) = bytesV l ++ [.int .u8 c.toNat] := by simp [bytesV]
theorem bytesV_len (l : List UInt8) : (bytesV l).length = l.length := by simp [bytesV]

theorem Tryd.info5 : (Tryd.prog.info? 5).map (fun i => (i.zero, i.size, i.bytes)) = some (some (.int .u8 0), 1, 1) := by kernel_rfl

/-- the bools bs lie there -/
def Bools (w : World) (b off : Nat) (bs : List Bool) : Prop := b < w.heap.size ∧ ∀ i, i < bs.length → w.cell? ⟨b, off + i, none⟩ = some (.bool (bs.getD i false))
theorem Bools.below {w w' : World} {b off : Nat} {bs : List Bool} (h : Bools w b off bs) (hb : Below w.heap.size w w') : Bools w' b off bs :=
  ⟨Nat.lt_of_lt_of_le h.1 hb.size, fun i hi => cell_kept' hb (h.2 i hi)⟩
where cell_kept' {w w1 : World} {b o : Nat} {v : Value} (hb : Below w.heap.size w w1) (h : w.cell? ⟨b, o, none⟩ = some v) : w1.cell? ⟨b, o, none⟩ = some v := (hb.cell (p := ⟨b, o, none⟩) (blk_lt h)).trans h

/-- a row of bytes is kept while another owned row of another type grows -/
theorem own_far {w w' : World} {base base2 n n2 : Nat} {e e2 : TypeId} {s s2 : Nat} {v v2 : Value} {xs xs2 : List Value} (h : w.ownsRow base e s v n xs) (h2 : w.ownsRow base2 e2 s2 v2 n2 xs2) (he : e ≠ e2) (hg : w.grownBy w' v2.ownBlock) : w'.ownsRow base e s v n xs := by
  refine h.kept hg ?_
  rcases h.2 with ⟨hv, _⟩ | ⟨g, cap, cur, hv, _, hg1, _⟩
  · left; subst hv; rfl
  · right
    subst hv
    rcases h2.2 with ⟨hv2, _⟩ | ⟨g2, cap2, cur2, hv2, _, hg2, _⟩
    · subst hv2; simp [Value.ownBlock]
    · subst hv2
      simp only [Value.ownBlock]
      intro e1
      have e1 := Option.some.inj e1
      subst e1
      rw [hg1] at hg2
      simp at hg2
      exact he hg2.2

/-- a variable of the call's own (a block of another type) is kept while an owned row grows -/
theorem var_far {w w' : World} {base2 n2 : Nat} {e2 t : TypeId} {s2 P : Nat} {v2 : Value} {xs2 : List Value} {cs : Array Value} (h : w.heap[P]? = some (.cells cs t (0, 0))) (h2 : w.ownsRow base2 e2 s2 v2 n2 xs2) (he : t ≠ e2) (hg : w.grownBy w' v2.ownBlock) : w'.heap[P]? = some (.cells cs t (0, 0)) := by
  rw [hg.block P (Array.getElem?_eq_some_iff.1 h).1 ?_]; exact h
  rcases h2.2 with ⟨hv2, _⟩ | ⟨g2, cap2, cur2, hv2, _, hg2, _⟩
  · subst hv2; simp [Value.ownBlock]
  · subst hv2
    simp only [Value.ownBlock]
    intro e1
    have e1 := Option.some.inj e1
    subst e1
    rw [h] at hg2
    simp at hg2
    exact he hg2.2

/-- a variable's block is not the owned row's block -/
theorem own_ne {w : World} {base n : Nat} {e t : TypeId} {s P : Nat} {v : Value} {xs : List Value} {cs : Array Value} (h : w.ownsRow base e s v n xs) (hP : w.heap[P]? = some (.cells cs t (0, 0))) (he : t ≠ e) : v.ownBlock ≠ some P := by
  rcases h.2 with ⟨hv, _⟩ | ⟨g, cap, cur, hv, _, hg, _⟩
  · subst hv; simp [Value.ownBlock]
  · subst hv
    simp only [Value.ownBlock]
    intro e1
    have e1 := Option.some.inj e1
    subst e1
    rw [hP] at hg
    simp at hg
    exact he hg.2

theorem make_step {w wr w1 : World} {P Hb x : Nat} {rv v pv hv : Value} {xs : List Value} {ss : List ByteArray} {X : Obj}
    (hown : wr.ownsRow w.heap.size 5 1 rv x xs) (hP : wr.heap[P]? = some (.cells #[pv] 26 (0, 0))) (hrows : OwnP wr w.heap.size v ss) (hH : wr.heap[Hb]? = some (.cells #[hv] 26 (0, 0))) (hbel : Below w.heap.size w wr)
    (h3 : (wr.alloc X).grownBy w1 rv.ownBlock) :
    w1.heap[P]? = some (.cells #[pv] 26 (0, 0)) ∧ OwnP w1 w.heap.size v ss ∧ w1.heap[Hb]? = some (.cells #[hv] 26 (0, 0)) ∧ Below w.heap.size w w1 := by
  have o1 := hown.alloc X
  have s := hbel.size
  refine ⟨var_far (by rw [Below.heap_alloc _ _ _ (Array.getElem?_eq_some_iff.1 hP).1]; exact hP) o1 (by decide) h3, own_far (hrows.alloc X) o1 (by decide) h3, var_far (by rw [Below.heap_alloc _ _ _ (Array.getElem?_eq_some_iff.1 hH).1]; exact hH) o1 (by decide) h3, (hbel.alloc s X).grown h3 (by simp; omega) (fun k hk => (o1.lt k hk).1)⟩
theorem own_below {w w' : World} {base n s : Nat} {e : TypeId} {v : Value} {xs : List Value} (h : w.ownsRow base e s v n xs) (hb : Below w.heap.size w w') : w'.ownsRow base e s v n xs := by
  obtain ⟨h1, h2⟩ := h
  refine ⟨h1, ?_⟩
  rcases h2 with h2 | ⟨g, cap, cur, hv, hg, hh, r⟩
  · exact Or.inl h2
  · exact Or.inr ⟨g, cap, cur, hv, hg, (hb.block g (Array.getElem?_eq_some_iff.1 hh).1).trans hh, r⟩

/-- two rows that the call owns, one made after the other: the elder is kept while the younger grows -/
theorem own_apart {w w' : World} {base base2 n n2 s s2 k : Nat} {e e2 : TypeId} {v v2 : Value} {xs xs2 : List Value} (h : w.ownsRow base e s v n xs) (h2 : w.ownsRow base2 e2 s2 v2 n2 xs2) (hk : ∀ j, v.ownBlock = some j → j < base2) (hg : w.grownBy w' v2.ownBlock) : w'.ownsRow base e s v n xs := by
  refine h.kept hg ?_
  rcases h1 : v.ownBlock with _ | j
  · left; rfl
  · right
    intro e1
    exact absurd (h2.lt j e1.symm).1 (by have := hk j h1; omega)

/-- a younger row is kept while an elder one is marked -/
theorem own_apart' {w w' : World} {base base2 n n2 s s2 : Nat} {e e2 : TypeId} {v v2 : Value} {xs xs2 : List Value} (h : w.ownsRow base e s v n xs) (h2 : w.ownsRow base2 e2 s2 v2 n2 xs2) (hk : ∀ j, v2.ownBlock = some j → j < base) (hg : w.grownBy w' v2.ownBlock) : w'.ownsRow base e s v n xs := by
  refine h.kept hg ?_
  rcases h1 : v.ownBlock with _ | j
  · left; rfl
  · right
    intro e1
    exact absurd (h.lt j h1).1 (by have := hk j e1.symm; omega)
end Go.Proofs.YtnmnlbgialolhaaDoor

/- Contracts of single functions, and plain lemmas, on which the exact laws of this seat rest; each holds under the conditions that it states. -/
namespace Go.Proofs.YtnmnlbgialolhaaDoor
set_option linter.unusedVariables false
open Go.RowKit

/-! ### a row of a matrix as text: the shelf's buffer -/
theorem byteCells_snoc (l : List UInt8) (c : UInt8) : Lib.byteCells (l ++ [c]) = Lib.byteCells l ++ [.int .u8 c.toNat] := by simp [Lib.byteCells]

theorem text_step {w wr w2 : World} {n k : Nat} {C : Array Value} {t : TypeId} (hC : wr.heap[n]? = some (.cells C t (0, 0))) (hn : n < k) (h : Below n w wr) (h2 : Below k wr w2) : w2.heap[n]? = some (.cells C t (0, 0)) ∧ Below n w w2 :=
  ⟨(h2.block n hn).trans hC, h.trans (h2.mono (by omega))⟩

set_option maxHeartbeats 4000000 in
set_option maxRecDepth 100000 in
theorem rowText_any (C : Array Value) (a b : Nat) (g : Nat → Nat) (y : Int) (w : World) (hC : C = mat a b g) (ha : a ≤ 16) (hb : b ≤ 16) (hg : ∀ j, g j < 4294967296) :
    Calls Tryd.prog 92 #[.agg C, .int .i64 y] w (fun e w' => e = .returned (.string (rowOf (fun x => blackB a b g x y) a)) ∧ Below w.heap.size w w') := by
  obtain ⟨f, hf⟩ : ∃ f : Nat → Bool, (fun x : Nat => blackB a b g (x : Int) y) = f := ⟨_, rfl⟩
  have HB := Lib.hid (fun (x : Nat) (W : World) => black_any C a b g x y W hC ha hb hg)
  have hf' : ∀ x : Nat, blackB a b g (x : Int) y = f x := fun x => by rw [← hf]
  have HF := Lib.hid hf'
  rw [hf]
  have hsz : C.size = 18 := by rw [hC]; rfl
  have HI : (Tryd.prog.info? 63).map (·.size) = some C.size := by rw [hsz]; exact infoM
  have HI' := Lib.hid HI
  have hl0 : (w.alloc (.cells C 63)).heap[w.heap.size]? = some (.cells C 63 (0, 0)) := heap_alloc_last w _
  have hl1 : ((w.alloc (.cells C 63)).alloc (.cells #[.slice none 0 0, .int .i64 0, .int .i8 0] 145)).heap[w.heap.size]? = some (.cells C 63 (0, 0)) := by
    rw [Below.heap_alloc _ _ _ (by simp)]; exact hl0
  have c0 : ((w.alloc (.cells C 63)).alloc (.cells #[.slice none 0 0, .int .i64 0, .int .i8 0] 145)).cell? ⟨w.heap.size, 0, none⟩ = some (.int .i64 a) := by
    rw [Joins.cell_of_block hl1 0, hC]; rfl
  have hI0 : Lib.IsBuffer 145 5 (w.heap.size + 1) (w.heap.size + 1) (Lib.byteCells (mkRow f 0)) ((w.alloc (.cells C 63)).alloc (.cells #[.slice none 0 0, .int .i64 0, .int .i8 0] 145)) := by
    have := Lib.fresh_isBuffer 145 5 (w.alloc (.cells C 63))
    simp only [World.size_alloc] at this
    exact this
  have L1 := Lib.hid hl1
  have I0 := Lib.hid hI0
  clear HI hsz hC hg hf hf' hl0 hl1 hI0
  go_enter Tryd.func92, Tryd.ntmps92
  go_wp2
  go_loopw [9] (fun xv wr => ∃ x : Nat, x ≤ a ∧ xv = .int .i64 x ∧ Lib.IsBuffer 145 5 (w.heap.size + 1) (w.heap.size + 1) (Lib.byteCells (mkRow f x)) wr ∧ wr.heap[w.heap.size]? = some (.cells C 63 (0, 0)) ∧ Below w.heap.size w wr) (fun xv _ => a - (intOf xv).toNat)
  case atStart => exact ⟨0, Nat.zero_le _, rfl, I0.out, L1.out, Joins.below_alloc2 _ _ _⟩
  case round =>
    obtain ⟨x, hx, rfl, hI, hl, hbel⟩ := hrel
    have hsz := hbel.size
    have hlt := hI.lt
    have hone : Hid (∀ v ∈ Lib.byteCells (mkRow f x), v.oneCell' = true) := Lib.byteCells_one _
    have hln : Hid ((Lib.byteCells (mkRow f x)).length = x) := by show _ = _; rw [Lib.byteCells_length, mkRow_len]
    have HI0 := Lib.hid hI
    have HL := Lib.hid hl
    have HBe := Lib.hid hbel
    clear hI hl hbel
    by_cases hlt2 : x < a
    · have kx0 : (x : Int) < (a : Int) := by omega
      go_wp2_with (first | (refine wpList_load_row rfl 63 _ rfl w.heap.size rfl 63 C (0, 0) _ HL.out Tryd.underlying63 rfl HI'.out ?_) | (refine (HB.out x _).mono ?_; rintro e w1 ⟨rfl, hb1⟩; rw [HF.out x]; refine Hid.out ?_))
      refine Lib.hid ?_
      have I1 := Lib.hid (HI0.out.old hb1)
      have L2 := Lib.hid ((hb1.block w.heap.size (by omega)).trans HL.out)
      have B1 := Lib.hid (HBe.out.trans (hb1.mono hsz))
      have hsz1 := B1.out.size
      have hlt1 : w.heap.size + 1 < w1.heap.size := I1.out.lt
      have hsn := mkRow_snoc f x
      clear hb1
      cases hbit : f x with
      | true =>
        rw [hbit] at hsn
        have HSN : Hid (mkRow f (x + 1) = mkRow f x ++ [35]) := hsn
        clear hbit hsn
        go_wp2_with (refine (Tryd.Buffer_WriteByte_k _ _ _ _ w1 I1.out (by omega) hone.out (by rw [hln.out]; omega)).mono ?_; rintro e W2 ⟨rfl, hI2, hb2, hkept⟩; refine Hid.out ?_)
        refine Lib.hid ?_
        have S := Lib.hid (text_step L2.out (by omega) B1.out hb2)
        have I2 : Hid (Lib.IsBuffer 145 5 (w.heap.size + 1) (w.heap.size + 1) (Lib.byteCells (mkRow f (x + 1))) W2) := by
          show Lib.IsBuffer _ _ _ _ _ _
          rw [HSN.out, byteCells_snoc]; exact hI2
        clear hI2 hb2 hkept
        go_wp2
        go_roundw
        case rel => exact ⟨x + 1, by omega, by go_num, I2.out, S.out.1, S.out.2⟩
        case measure => simp [intOf]; omega
      | false =>
        rw [hbit] at hsn
        have HSN : Hid (mkRow f (x + 1) = mkRow f x ++ [46]) := hsn
        clear hbit hsn
        go_wp2_with (refine (Tryd.Buffer_WriteByte_k _ _ _ _ w1 I1.out (by omega) hone.out (by rw [hln.out]; omega)).mono ?_; rintro e W2 ⟨rfl, hI2, hb2, hkept⟩; refine Hid.out ?_)
        refine Lib.hid ?_
        have S := Lib.hid (text_step L2.out (by omega) B1.out hb2)
        have I2 : Hid (Lib.IsBuffer 145 5 (w.heap.size + 1) (w.heap.size + 1) (Lib.byteCells (mkRow f (x + 1))) W2) := by
          show Lib.IsBuffer _ _ _ _ _ _
          rw [HSN.out, byteCells_snoc]; exact hI2
        clear hI2 hb2 hkept
        go_wp2
        go_roundw
        case rel => exact ⟨x + 1, by omega, by go_num, I2.out, S.out.1, S.out.2⟩
        case measure => simp [intOf]; omega
    · obtain rfl : x = a := by omega
      go_wp2_with (refine (Tryd.Buffer_String _ _ (mkRow f x) wr HI0.out).mono ?_; rintro e W2 ⟨rfl, n, rfl⟩)
      go_wp2
      go_ret
      exact ⟨rfl, HBe.out.trans ⟨rfl, rfl, rfl, Nat.le_refl _, fun _ _ => rfl⟩⟩
end Go.Proofs.YtnmnlbgialolhaaDoor

/- Contracts of single functions, and plain lemmas, on which the exact laws of this seat rest; each holds under the conditions that it states. -/
namespace Go.Proofs.YtnmnlbgialolhaaDoor
set_option linter.unusedVariables false
open Go.RowKit

set_option maxHeartbeats 4000000 in
set_option maxRecDepth 100000 in
theorem picture_any (C : Array Value) (a b : Nat) (g : Nat → Nat) (w : World) (hC : C = mat a b g) (ha : a ≤ 16) (hb : b ≤ 16) (hg : ∀ j, g j < 4294967296) :
    Calls Tryd.prog 44 #[.agg C] w (TookPic w (mkPic a b (fun y x => blackB a b g x y))) := by
  obtain ⟨i0, hi, hz0, hz1, hz2⟩ := info_parts Tryd.info9
  obtain ⟨R, hR⟩ : ∃ R : Nat → ByteArray, (fun y : Nat => rowOf (fun x => blackB a b g x (y : Int)) a) = R := ⟨_, rfl⟩
  have ht : ∀ (y : Nat) (W : World), Calls Tryd.prog 92 #[.agg C, .int .i64 y] W (fun e w' => e = .returned (.string (R y)) ∧ Below W.heap.size W w') := fun y W => by
    have := rowText_any C a b g (y : Int) W hC ha hb hg
    rw [← hR]; exact this
  have HT := Lib.hid ht
  have hfin : mkPic a b (fun y x => blackB a b g x y) = (List.range b).map R := by rw [← hR]; rfl
  rw [hfin]
  have hsz : C.size = 18 := by rw [hC]; rfl
  have HI : (Tryd.prog.info? 63).map (·.size) = some C.size := by rw [hsz]; exact infoM
  have HI' := Lib.hid HI
  have hl1 : ((w.alloc (.cells C 63)).alloc (.cells #[.slice none 0 0] 26)).heap[w.heap.size]? = some (.cells C 63 (0, 0)) := by
    rw [Below.heap_alloc _ _ _ (by simp)]; exact heap_alloc_last w _
  have hp1 : ((w.alloc (.cells C 63)).alloc (.cells #[.slice none 0 0] 26)).heap[w.heap.size + 1]? = some (.cells #[.slice none 0 0] 26 (0, 0)) := by
    have := heap_alloc_last (w.alloc (.cells C 63)) (.cells #[.slice none 0 0] 26)
    simp only [World.size_alloc] at this
    exact this
  have c0 : ((w.alloc (.cells C 63)).alloc (.cells #[.slice none 0 0] 26)).cell? ⟨w.heap.size, 1, none⟩ = some (.int .i64 b) := by
    rw [Joins.cell_of_block hl1 1, hC]; rfl
  have L1 := Lib.hid hl1
  have P1 := Lib.hid hp1
  clear HI hsz hC hg hR ht hfin hl1 hp1
  go_enter Tryd.func44, Tryd.ntmps44
  go_wp2_with (at_make; refine wpList_make_full _ rfl _ _ 22 rfl w.heap.size 9 i0 (.string ⟨#[]⟩) 1 Tryd.underlying22 hi hz0 hz1 _ _ _ _ b rfl rfl rfl rfl ?c1 ?c2 (by simp; omega) ?_)
  case c1 => rw [hz2]; omega
  case c2 => unfold maxLen; omega
  intro w1 hown hgr
  rw [toList_madeCells_one] at hown
  have hbel : Below w.heap.size w w1 := (Joins.below_alloc2 w _ _).grown hgr (by simp <;> omega) (fun k h => by cases h)
  have hl2 : w1.heap[w.heap.size]? = some (.cells C 63 (0, 0)) := (hgr.block _ (by simp <;> omega) (by simp)).trans L1.out
  have hp2 : w1.heap[w.heap.size + 1]? = some (.cells #[.slice none 0 0] 26 (0, 0)) := (hgr.block _ (by simp <;> omega) (by simp)).trans P1.out
  have c1 : w1.cell? ⟨w.heap.size, 1, none⟩ = some (.int .i64 b) := (World.cell?_of_block (hl2.trans L1.out.symm)).trans c0
  have HO := Lib.hid hown
  have HL2 := Lib.hid hl2
  have HP2 := Lib.hid hp2
  have HBe := Lib.hid hbel
  clear hgr hown hbel hl2 hp2 c0
  go_wp2
  go_loopw [10] (fun yv wr => ∃ y : Nat, y ≤ b ∧ yv = .int .i64 y ∧ wr.ownsRow w.heap.size 9 1 (.slice (some ⟨w.heap.size + 1 + 1, 0, none⟩) b b) b ((List.range y).map (fun i => Value.string (R i)) ++ List.replicate (b - y) (.string ⟨#[]⟩)) ∧ wr.heap[w.heap.size]? = some (.cells C 63 (0, 0)) ∧ wr.heap[w.heap.size + 1]? = some (.cells #[.slice none 0 0] 26 (0, 0)) ∧ Below w.heap.size w wr) (fun yv _ => b - (intOf yv).toNat)
  case atStart => exact ⟨0, Nat.zero_le _, rfl, by simpa using HO.out, HL2.out, HP2.out, HBe.out⟩
  case round =>
    clear HO HL2 HP2 HBe
    obtain ⟨y, hy, rfl, hown, hl, hp, hbel⟩ := hrel
    by_cases hlt : y < b
    · have kyb : (y : Int) < (b : Int) := by omega
      have hs0 := hbel.size
      have HO := Lib.hid hown
      have HL := Lib.hid hl
      have HP := Lib.hid hp
      have HBe := Lib.hid hbel
      clear hown hl hp hbel
      go_wp2_with (first | (refine wpList_load_row rfl 63 _ rfl w.heap.size rfl 63 C (0, 0) _ HL.out Tryd.underlying63 rfl HI'.out ?_) | (refine (HT.out y _).mono ?_; rintro e w2 ⟨rfl, hb2⟩; refine Hid.out ?_))
      refine Lib.hid ?_
      have hown := own_below HO.out hb2
      have hl := (hb2.block _ (Array.getElem?_eq_some_iff.1 HL.out).1).trans HL.out
      have hp := (hb2.block _ (Array.getElem?_eq_some_iff.1 HP.out).1).trans HP.out
      have hbel := HBe.out.trans (hb2.mono hs0)
      have hfz := hown.frozenAt y
      have hold := hown.cellAt y (by omega)
      rw [List.getElem?_append_right (by simp)] at hold
      simp only [List.length_map, List.length_range, Nat.sub_self] at hold
      rw [show b - y = (b - (y + 1)) + 1 from by omega, List.replicate_succ] at hold
      simp only [List.getElem?_cons_zero] at hold
      have hst := hown.stored y (.string (R y))
      rw [set_prefix (fun i => Value.string (R i)) _ b y hlt] at hst
      have HS := Lib.hid hst
      have HL3 := Lib.hid hl
      have HP3 := Lib.hid hp
      have HB3 := Lib.hid hbel
      obtain ⟨s, hs⟩ : ∃ s, R y = s := ⟨_, rfl⟩
      rw [hs] at HS ⊢
      clear hst hown hbel hs hl hp hb2
      go_wp2
      go_roundw
      case rel => exact ⟨y + 1, by omega, by go_num, HS.out.1, (Below.heap_setCell _ _ _ _ (by simp; omega)).trans HL3.out, (Below.heap_setCell _ _ _ _ (by simp)).trans HP3.out, HB3.out.setCell (by simp; omega) _⟩
      case measure => simp [intOf]; omega
    · obtain rfl : y = b := by omega
      have hfr : wr.frozen? ⟨w.heap.size + 1, 0, none⟩ = false := free_of_one hp
      have hc : wr.cell? ⟨w.heap.size + 1, 0, none⟩ = some (.slice none 0 0) := cell_of_one hp
      have hlen : ((List.range y).map R).length = y := by simp
      have hO : OwnP wr w.heap.size (.slice (some ⟨w.heap.size + 1 + 1, 0, none⟩) y y) ((List.range y).map R) := by
        unfold OwnP
        rw [hlen, List.map_map]
        simp only [Nat.sub_self, List.replicate_zero, List.append_nil] at hown
        exact hown
      have HO := Lib.hid hO
      have HL := Lib.hid hl
      have HP := Lib.hid hp
      have HBe := Lib.hid hbel
      clear hown hl hp hbel hO
      go_wp2
      refine bodyPost_ret (v := .agg #[.slice (some ⟨w.heap.size + 1 + 1, 0, none⟩) y y]) (by simp [results, Tryd.results44, go_sem, cell_of_one (one_setCell HP.out)]) rfl ⟨w.heap.size + 1 + 1, y, by rw [hlen], ?_, HBe.out.setCell (by simp) _⟩
      rw [hlen]
      exact Joins.ownsRow_le (ownsRow_setCell_other HO.out (a := ⟨w.heap.size + 1, 0, none⟩) (own_ne HO.out HP.out (by decide)) _) (by omega)
end Go.Proofs.YtnmnlbgialolhaaDoor

/- Contracts of single functions, and plain lemmas, on which the exact laws of this seat rest; each holds under the conditions that it states. -/
namespace Go.Proofs.YtnmnlbgialolhaaDoor
set_option linter.unusedVariables false
open Go.RowKit

theorem l01Height_any (pb po : Nat) (ss : List ByteArray) (w : World) (hp : PicAt w pb po ss) :
    Calls Tryd.prog 62 #[.pointer (some ⟨pb, po, none⟩)] w fun e w' => e = .returned (.int .i64 ss.length) ∧ w = w' := by
  obtain ⟨b, off, cap, hc, hst, V⟩ := hp.open'
  have := V.n16
  go_enter Tryd.func62, Tryd.ntmps62
  go_wp2
  go_ret
  exact ⟨rfl, rfl⟩

theorem l01Width_any (pb po : Nat) (ss : List ByteArray) (w : World) (hp : PicAt w pb po ss) :
    Calls Tryd.prog 61 #[.pointer (some ⟨pb, po, none⟩)] w fun e w' => e = .returned (.int .i64 (row0 ss).size) ∧ w = w' := by
  obtain ⟨b, off, cap, hc, hst, V⟩ := hp.open'
  have h1 := V.n1
  have h2 := V.n16
  have h3 := V.w16
  have hc0 := hst.2 0 (by omega)
  rw [Nat.add_zero, show ss.getD 0 ByteArray.empty = row0 ss from rfl] at hc0
  obtain ⟨s0, hs⟩ : ∃ s, row0 ss = s := ⟨_, rfl⟩
  rw [hs] at hc0 h3 ⊢
  have k0 : (0 : Int) < (ss.length : Int) := by omega
  clear hs hst V
  go_enter Tryd.func61, Tryd.ntmps61
  go_wp2
  go_ret
  exact ⟨rfl, rfl⟩

def insB (a b x y : Int) : Bool := inB x 0 (a - 1) && inB y 0 (b - 1)

theorem l01Has_any (pb po : Nat) (ss : List ByteArray) (x y : Int) (w : World) (hp : PicAt w pb po ss) :
    Calls Tryd.prog 112 #[.pointer (some ⟨pb, po, none⟩), .int .i64 x, .int .i64 y] w fun e w' => e = .returned (.bool (insB (row0 ss).size ss.length x y)) ∧ w = w' := by
  obtain ⟨b, off, cap, hc, hst, V⟩ := hp.open'
  have h1 := V.n1
  have h2 := V.n16
  have h3 := V.w16
  have h4 := V.w1
  have CW := Lib.hid (l01Width_any pb po ss w hp)
  have CH := Lib.hid (l01Height_any pb po ss w hp)
  obtain ⟨a, ha⟩ : ∃ a, (row0 ss).size = a := ⟨_, rfl⟩
  obtain ⟨n, hn⟩ : ∃ a, ss.length = a := ⟨_, rfl⟩
  rw [ha] at CW h3 h4 ⊢
  rw [hn] at CH h1 h2 ⊢
  clear ha hn hp hc hst V
  cases hx : inB x 0 ((a : Int) - 1) with
  | false =>
    have HX := Lib.hid hx
    have e2 : Hid (insB a n x y = false) := by show insB a n x y = _; simp [insB, hx]
    clear hx
    go_enter Tryd.func112, Tryd.ntmps112
    go_wp2_with fail
    refine CW.out.mono ?_
    rintro e w' ⟨rfl, rfl⟩
    go_wp2_with fail
    refine (l00In_any _ _ _ _).mono ?_
    rintro e w' ⟨rfl, rfl⟩
    rw [HX.out]
    go_wp2_with fail
    go_ret
    exact ⟨ret_bool (a := false) e2.out.symm, rfl⟩
  | true =>
    have HX := Lib.hid hx
    have e2 : Hid (insB a n x y = inB y 0 ((n : Int) - 1)) := by show insB a n x y = _; simp [insB, hx]
    clear hx
    go_enter Tryd.func112, Tryd.ntmps112
    go_wp2_with fail
    refine CW.out.mono ?_
    rintro e w' ⟨rfl, rfl⟩
    go_wp2_with fail
    refine (l00In_any _ _ _ _).mono ?_
    rintro e w' ⟨rfl, rfl⟩
    rw [HX.out]
    go_wp2_with fail
    refine CH.out.mono ?_
    rintro e w' ⟨rfl, rfl⟩
    go_wp2_with fail
    refine (l00In_any _ _ _ _).mono ?_
    rintro e w' ⟨rfl, rfl⟩
    go_wp2_with fail
    go_ret
    exact ⟨ret_bool e2.out.symm, rfl⟩

/-- is the pixel x, y black; outside all are white -/
def pixI (ss : List ByteArray) (x y : Int) : Bool := insB (row0 ss).size ss.length x y && blackAt (ss.getD y.toNat ByteArray.empty) x.toNat

theorem l01Black_any (pb po : Nat) (ss : List ByteArray) (x y : Int) (w : World) (hp : PicAt w pb po ss) :
    Calls Tryd.prog 86 #[.pointer (some ⟨pb, po, none⟩), .int .i64 x, .int .i64 y] w fun e w' => e = .returned (.bool (pixI ss x y)) ∧ w = w' := by
  have CH := Lib.hid (l01Has_any pb po ss x y w hp)
  obtain ⟨b, off, cap, hc, hst, V⟩ := hp.open'
  by_cases hin : insB (row0 ss).size ss.length x y = true
  · have h1 := V.n1
    have h2 := V.n16
    have h3 := V.w16
    have hin2 := hin
    unfold insB inB at hin2
    simp at hin2
    obtain ⟨⟨hx0, hx1⟩, hy0, hy1⟩ := hin2
    obtain ⟨p, rfl⟩ := Int.eq_ofNat_of_zero_le hx0
    obtain ⟨q, rfl⟩ := Int.eq_ofNat_of_zero_le hy0
    have hq : q < ss.length := by omega
    have hcq := hst.2 q hq
    have hrow := (V.rows q hq).1
    have hval : Hid (pixI ss p q = blackAt (ss.getD q ByteArray.empty) p) := by show pixI ss p q = _; unfold pixI; rw [hin]; simp
    obtain ⟨s, hs⟩ : ∃ s, ss.getD q ByteArray.empty = s := ⟨_, rfl⟩
    rw [hs] at hcq hrow hval
    have hps : p < s.size := by omega
    have hb := blackAt_eq s p hps
    have ks : (s.size : Int) ≤ 16 := by omega
    have kq : (q : Int) < (ss.length : Int) := by omega
    have HIN := Lib.hid hin
    cases hbit : blackAt s p with
    | true =>
      rw [hbit] at hb hval
      have hb2 : (((s[p]'hps).toNat : Int) == 35) = true := by
        have := beq_iff_eq.1 hb.symm
        rw [this]; rfl
      clear hin hb hbit hs hst V hrow
      go_enter Tryd.func86, Tryd.ntmps86
      go_wp2_with fail
      refine CH.out.mono ?_
      rintro e w' ⟨rfl, rfl⟩
      rw [HIN.out]
      go_wp2
      go_ret
      exact ⟨ret_bool (a := true) hval.out.symm, rfl⟩
    | false =>
      rw [hbit] at hb hval
      have hb2 : (((s[p]'hps).toNat : Int) == 35) = false := by
        rw [beq_eq_false_iff_ne]
        intro e
        have := b35 (c := s[p]) (Int.ofNat_inj.1 e)
        rw [this] at hb
        exact absurd hb (by decide)
      clear hin hb hbit hs hst V hrow
      go_enter Tryd.func86, Tryd.ntmps86
      go_wp2_with fail
      refine CH.out.mono ?_
      rintro e w' ⟨rfl, rfl⟩
      rw [HIN.out]
      go_wp2
      go_ret
      exact ⟨ret_bool (a := false) hval.out.symm, rfl⟩
  · have hin' : insB (row0 ss).size ss.length x y = false := by simpa using hin
    have hval : Hid (pixI ss x y = false) := by show pixI ss x y = _; unfold pixI; rw [hin']; simp
    have HIN := Lib.hid hin'
    clear hin hin' hst V hp
    go_enter Tryd.func86, Tryd.ntmps86
    go_wp2_with fail
    refine CH.out.mono ?_
    rintro e w' ⟨rfl, rfl⟩
    rw [HIN.out]
    go_wp2
    go_ret
    exact ⟨ret_bool (a := false) hval.out.symm, rfl⟩
end Go.Proofs.YtnmnlbgialolhaaDoor

/- Contracts of single functions, and plain lemmas, on which the exact laws of this seat rest; each holds under the conditions that it states. -/
namespace Go.Proofs.YtnmnlbgialolhaaDoor
set_option linter.unusedVariables false
open Go.RowKit

/-- a picture of the call's own and a bool handed back -/
def SaysPic (ss : List ByteArray) (ok : Bool) (w : World) (e : Ending) (w' : World) : Prop :=
  ∃ ao n cap, e = .returned (.tuple #[.agg #[.slice ao n cap], .bool ok]) ∧ OwnP w' w.heap.size (.slice ao n cap) ss ∧ Below w.heap.size w w'
def NoPic (w : World) (e : Ending) (w' : World) : Prop := SaysPic [] false w e w'

theorem Tryd.info4 : (Tryd.prog.info? 4).map (fun i => (i.zero, i.size, i.bytes)) = some (some (.bool false), 1, 1) := by kernel_rfl

theorem own_set {w : World} {base n s P : Nat} {e : TypeId} {v u : Value} {cs : Array Value} {t : TypeId} {xs : List Value} (h : w.ownsRow base e s v n xs) (hP : w.heap[P]? = some (.cells cs t (0, 0))) (he : t ≠ e) : (w.setCell ⟨P, 0, none⟩ u).ownsRow base e s v n xs :=
  ownsRow_setCell_other h (a := ⟨P, 0, none⟩) (own_ne h hP he) u

theorem rep_false (n : Nat) (i : Nat) : (List.replicate n false).getD i false = false := by
  by_cases h : i < n
  · simp [List.getD, h]
  · simp [List.getD, h]
end Go.Proofs.YtnmnlbgialolhaaDoor

/- Contracts of single functions, and plain lemmas, on which the exact laws of this seat rest; each holds under the conditions that it states. -/
namespace Go.Proofs.YtnmnlbgialolhaaDoor
set_option linter.unusedVariables false
open Go.RowKit

/-- a variable of the call's own is kept while an owned row of another type grows -/
theorem var_grown {w w' : World} {base2 n2 s2 P : Nat} {e2 t : TypeId} {v2 : Value} {cs : Array Value} {xs2 : List Value} (h : w.heap[P]? = some (.cells cs t (0, 0))) (h2 : w.ownsRow base2 e2 s2 v2 n2 xs2) (he : t ≠ e2) (hg : w.grownBy w' v2.ownBlock) : w'.heap[P]? = some (.cells cs t (0, 0)) := var_far h h2 he hg

structure TwoPics (W : World) (b1 b2 lo hi : Nat) (u v : Value) (xs ys : List ByteArray) : Prop where
  c1 : W.heap[b1]? = some (.cells #[u] 26 (0, 0))
  c2 : W.heap[b2]? = some (.cells #[v] 26 (0, 0))
  o1 : OwnP W lo u xs
  o2 : OwnP W hi v ys
  lt : ∀ j, u.ownBlock = some j → j < hi

theorem TwoPics.below {W W' : World} {b1 b2 lo hi : Nat} {u v : Value} {xs ys : List ByteArray} (h : TwoPics W b1 b2 lo hi u v xs ys) (hb : Below W.heap.size W W') : TwoPics W' b1 b2 lo hi u v xs ys :=
  ⟨(hb.block _ (Array.getElem?_eq_some_iff.1 h.c1).1).trans h.c1, (hb.block _ (Array.getElem?_eq_some_iff.1 h.c2).1).trans h.c2, own_below h.o1 hb, own_below h.o2 hb, h.lt⟩
theorem TwoPics.marked {W W' : World} {b1 b2 lo hi : Nat} {u v : Value} {xs ys zs : List ByteArray} (h : TwoPics W b1 b2 lo hi u v xs ys) (ho : OwnP W' hi v zs) (hg : W.grownBy W' v.ownBlock) : TwoPics W' b1 b2 lo hi u v xs zs :=
  ⟨var_far h.c1 h.o2 (by decide) hg, var_far h.c2 h.o2 (by decide) hg, own_apart (k := 0) h.o1 h.o2 h.lt hg, ho, h.lt⟩
theorem TwoPics.v1 {W : World} {b1 b2 lo hi : Nat} {u v : Value} {xs ys : List ByteArray} (h : TwoPics W b1 b2 lo hi u v xs ys) : W.cell? ⟨b1, 0, none⟩ = some u := cell_of_one h.c1
theorem TwoPics.v2 {W : World} {b1 b2 lo hi : Nat} {u v : Value} {xs ys : List ByteArray} (h : TwoPics W b1 b2 lo hi u v xs ys) : W.cell? ⟨b2, 0, none⟩ = some v := cell_of_one h.c2

/-- want and got, each in a variable of its own, made one after the other -/
theorem TwoPics.mk' {w1 w2 : World} {lo : Nat} {u v : Value} {P : List ByteArray} (h1 : OwnP w1 lo u P) (h2 : OwnP w2 (w1.alloc (.cells #[u] 26)).heap.size v P) (hb2 : Below (w1.alloc (.cells #[u] 26)).heap.size (w1.alloc (.cells #[u] 26)) w2) :
    TwoPics (w2.alloc (.cells #[v] 26)) w1.heap.size w2.heap.size lo (w1.heap.size + 1) u v P P := by
  have hs := hb2.size
  simp at hs
  refine ⟨?_, heap_alloc_last w2 _, ?_, ?_, fun j hj => ?_⟩
  · rw [Below.heap_alloc _ _ _ (by omega), hb2.block _ (by simp)]; exact heap_alloc_last w1 _
  · exact (own_below (h1.alloc _) hb2).alloc _
  · have := h2.alloc (.cells #[v] 26)
    unfold OwnP
    simpa using this
  · have := (h1.lt j hj).2; omega

/-- want and got, each in a variable of its own (other rows), made one after the other -/
theorem TwoPics.mk2 {w1 w2 : World} {lo : Nat} {u v : Value} {P Q : List ByteArray} (h1 : OwnP w1 lo u P) (h2 : OwnP w2 (w1.alloc (.cells #[u] 26)).heap.size v Q) (hb2 : Below (w1.alloc (.cells #[u] 26)).heap.size (w1.alloc (.cells #[u] 26)) w2) :
    TwoPics (w2.alloc (.cells #[v] 26)) w1.heap.size w2.heap.size lo (w1.heap.size + 1) u v P Q := by
  have hs := hb2.size
  simp at hs
  refine ⟨?_, heap_alloc_last w2 _, ?_, ?_, fun j hj => ?_⟩
  · rw [Below.heap_alloc _ _ _ (by omega), hb2.block _ (by simp)]; exact heap_alloc_last w1 _
  · exact (own_below (h1.alloc _) hb2).alloc _
  · have := h2.alloc (.cells #[v] 26)
    unfold OwnP
    simpa using this
  · have := (h1.lt j hj).2; omega

theorem TwoPics.grow {w W W' : World} {b1 b2 lo hi : Nat} {u v : Value} {xs ys : List ByteArray} (h : TwoPics W b1 b2 lo hi u v xs ys) (hw : w.heap.size ≤ hi) (hb : Below w.heap.size w W) (hg : W.grownBy W' v.ownBlock) : Below w.heap.size w W' :=
  hb.grown hg hb.size (fun k hk => Nat.le_trans hw (h.o2.lt k hk).1)

theorem marks_bound {P : List ByteArray} (h : P.length ≤ 1048576) : 1 + P.length ≤ 9000000 := by omega
end Go.Proofs.YtnmnlbgialolhaaDoor

/- Contracts of single functions, and plain lemmas, on which the exact laws of this seat rest; each holds under the conditions that it states. -/
namespace Go.Proofs.YtnmnlbgialolhaaDoor
set_option linter.unusedVariables false
open Go.RowKit

/-! ### the list of a picture's pixels -/
def pixF (ss : List ByteArray) (y x : Nat) : Bool := blackAt (ss.getD y ByteArray.empty) x
def pixL (ss : List ByteArray) (wd N : Nat) : List Bool := (List.range N).map fun i => pixF ss (i / wd) (i % wd)
def boolV (l : List Bool) : List Value := l.map Value.bool
theorem pixL_len (ss : List ByteArray) (wd N : Nat) : (pixL ss wd N).length = N := by simp [pixL]
theorem pixL_snoc (ss : List ByteArray) (wd y x : Nat) (hx : x < wd) : boolV (pixL ss wd (y * wd + x + 1)) = boolV (pixL ss wd (y * wd + x)) ++ [.bool (pixF ss y x)] := by
  have h1 : (y * wd + x) / wd = y := by rw [Nat.mul_comm, Nat.mul_add_div (by omega), Nat.div_eq_of_lt hx, Nat.add_zero]
  have h2 : (y * wd + x) % wd = x := by rw [Nat.mul_comm, Nat.mul_add_mod, Nat.mod_eq_of_lt hx]
  simp [boolV, pixL, List.range_succ, h1, h2]
theorem pixL_at (ss : List ByteArray) (wd h y x : Nat) (hy : y < h) (hx : x < wd) : (pixL ss wd (wd * h)).getD (y * wd + x) false = pixF ss y x := by
  have h1 : (y * wd + x) / wd = y := by rw [Nat.mul_comm, Nat.mul_add_div (by omega), Nat.div_eq_of_lt hx, Nat.add_zero]
  have h2 : (y * wd + x) % wd = x := by rw [Nat.mul_comm, Nat.mul_add_mod, Nat.mod_eq_of_lt hx]
  have h3 : (y + 1) * wd ≤ h * wd := Nat.mul_le_mul_right _ hy
  rw [Nat.add_mul, Nat.one_mul, Nat.mul_comm h wd] at h3
  have hlt : y * wd + x < wd * h := by omega
  simp [pixL, List.getD, hlt, h1, h2]

def Listed (ss : List ByteArray) (w : World) (e : Ending) (w' : World) : Prop :=
  ∃ g cap, e = .returned (.slice (some ⟨g, 0, none⟩) ((row0 ss).size * ss.length) cap) ∧ w'.ownsRow w.heap.size 4 1 (.slice (some ⟨g, 0, none⟩) ((row0 ss).size * ss.length) cap) ((row0 ss).size * ss.length) (boolV (pixL ss (row0 ss).size ((row0 ss).size * ss.length))) ∧ Below w.heap.size w w'

theorem black35 (s : ByteArray) (x : Nat) (h : x < s.size) : (((s[x]'h).toNat : Int) == 35) = blackAt s x := by
  have hb := blackAt_eq s x h
  cases hbit : blackAt s x with
  | true =>
    rw [hbit] at hb
    have := beq_iff_eq.1 hb.symm
    rw [this]; rfl
  | false =>
    rw [hbit] at hb
    rw [beq_eq_false_iff_ne]
    intro e
    have := b35 (c := s[x]) (Int.ofNat_inj.1 e)
    rw [this] at hb
    exact absurd hb (by decide)
end Go.Proofs.YtnmnlbgialolhaaDoor

/- Contracts of single functions, and plain lemmas, on which the exact laws of this seat rest; each holds under the conditions that it states. -/
namespace Go.Proofs.YtnmnlbgialolhaaDoor
set_option linter.unusedVariables false
open Go.RowKit

/-! ### what the laws of pictures share -/
theorem sameL_self (xs : List ByteArray) : sameL xs xs = true := by unfold sameL; simp
theorem small_of {ss : List ByteArray} {left : Int} (h : left ≤ 1048576) (h2 : (ss.length : Int) ≤ left) : ss.length ≤ 1048576 := by omega
/-- two bools handed back -/
def SaysBB (b ok : Bool) (w : World) (e : Ending) (w' : World) : Prop := e = .returned (.tuple #[.bool b, .bool ok]) ∧ Below w.heap.size w w'
theorem hasB_insB (a b : Nat) (x y : Int) : hasB a b x y = insB a b x y := by
  unfold hasB insB inB
  rw [show decide (x < (a : Int)) = decide (x ≤ (a : Int) - 1) from decide_eq_decide.2 (by omega), show decide (y < (b : Int)) = decide (y ≤ (b : Int) - 1) from decide_eq_decide.2 (by omega)]
  cases decide (0 ≤ x) <;> cases decide (x ≤ (a : Int) - 1) <;> cases decide (0 ≤ y) <;> cases decide (y ≤ (b : Int) - 1) <;> rfl
theorem words_bit {ss : List ByteArray} (V : VP ss) (x y : Int) : blackB (row0 ss).size ss.length (wordsOf ss) x y = pixI ss x y := by
  unfold blackB pixI
  rw [hasB_insB]
  cases h : insB (row0 ss).size ss.length x y with
  | false => rfl
  | true =>
    unfold insB inB at h
    simp only [Bool.and_eq_true, decide_eq_true_eq] at h
    obtain ⟨⟨hx0, hx1⟩, hy0, hy1⟩ := h
    have hy : y.toNat < ss.length := by omega
    rw [Bool.true_and, Bool.true_and]
    unfold wordsOf rowWord
    rw [if_pos hy, wordF_bit]
    rw [(V.rows _ hy).1, show decide (x.toNat < (row0 ss).size) = true from decide_eq_true (by omega), Bool.true_and]
theorem rowWord_lt {s : ByteArray} (h : s.size ≤ 16) : rowWord s < 4294967296 := by
  have h1 := wordF_lt (blackAt s) s.size
  have h2 : 2 ^ s.size ≤ 2 ^ 16 := Nat.pow_le_pow_right (by omega) h
  unfold rowWord
  omega
theorem words_lt {ss : List ByteArray} (V : VP ss) (j : Nat) : wordsOf ss j < 4294967296 := by
  unfold wordsOf
  split
  · rename_i h
    exact rowWord_lt (by rw [(V.rows j h).1]; exact V.w16)
  · omega
theorem ret_bb {a b c d : Bool} (h1 : a = c) (h2 : b = d) : Ending.returned (.tuple #[.bool a, .bool b]) = .returned (.tuple #[.bool c, .bool d]) := by rw [h1, h2]
def pixOk (ss : List ByteArray) (x y : Int) : Bool := validB ss && insB (row0 ss).size ss.length x y
def pixVal (ss : List ByteArray) (x y : Int) : Bool := validB ss && pixI ss x y
theorem mkPic_congr {wd h : Nat} {f g : Nat → Nat → Bool} (e : ∀ y, y < h → ∀ x, x < wd → f y x = g y x) : mkPic wd h f = mkPic wd h g := by
  unfold mkPic
  refine List.map_congr_left fun y hy => ?_
  rw [List.mem_range] at hy
  unfold rowOf mkRow
  rw [show (List.range wd).map (fun x => if f y x then (35 : UInt8) else 46) = (List.range wd).map (fun x => if g y x then 35 else 46) from List.map_congr_left fun x hx => by rw [e y hy x (List.mem_range.1 hx)]]
theorem own_bools {w : World} {base g n cap : Nat} {bs : List Bool} (h : w.ownsRow base 4 1 (.slice (some ⟨g, 0, none⟩) n cap) n (boolV bs)) (hn : bs.length = n) : Bools w g 0 bs := by
  refine ⟨(h.lt g rfl).2, fun i hi => ?_⟩
  have := h.cells (g := g) rfl i (.bool (bs.getD i false)) (by unfold boolV; rw [List.getElem?_map, List.getElem?_eq_getElem hi, List.getD_eq_getElem?_getD, List.getElem?_eq_getElem hi]; rfl)
  have e1 : (⟨g, 0, none⟩ : Addr).add i = ⟨g, 0 + i, none⟩ := by
    simp only [Addr.add, Nat.zero_add]
    split <;> simp_all
  rwa [e1] at this
theorem boolV_set (bs : List Bool) (k : Nat) (b : Bool) : (boolV bs).set k (.bool b) = boolV (bs.set k b) := by simp [boolV, List.map_set]
theorem in_range {a b x y : Nat} (hx : x < a) (hy : y < b) : insB a b x y = true := by
  unfold insB inB
  simp only [Bool.and_eq_true, decide_eq_true_eq]
  omega
theorem words_at {ss : List ByteArray} (V : VP ss) (y x : Nat) (hy : y < ss.length) (hx : x < (row0 ss).size) : (wordsOf ss y).testBit x = pixF ss y x := by
  have h0 := words_bit V (x : Int) (y : Int)
  have hh : hasB (row0 ss).size ss.length x y = true := by rw [hasB_insB]; exact in_range hx hy
  unfold blackB pixI at h0
  rw [hh, in_range hx hy] at h0
  simpa [pixF] using h0
theorem after_alloc {w w1 : World} {M : Array Value} {P : Nat} {t t2 : TypeId} {x u : Value} (hP : w1.heap[P]? = some (.cells #[x] t (0, 0))) (hb : Below w.heap.size w w1) (hw : w.heap.size ≤ P) :
    ((w1.setCell ⟨P, 0, none⟩ u).alloc (.cells M t2)).cell? ⟨P, 0, none⟩ = some u ∧ Below w.heap.size w ((w1.setCell ⟨P, 0, none⟩ u).alloc (.cells M t2)) := by
  have hl := (Array.getElem?_eq_some_iff.1 hP).1
  have hss : (w1.setCell ⟨P, 0, none⟩ u).heap.size = w1.heap.size := by simp [World.setCell]
  exact ⟨cell_of_one ((Below.heap_alloc _ _ P (by rw [hss]; exact hl)).trans (one_setCell hP)), (hb.setCell (p := ⟨P, 0, none⟩) hw u).alloc (by rw [hss]; exact hb.size) _⟩
end Go.Proofs.YtnmnlbgialolhaaDoor
