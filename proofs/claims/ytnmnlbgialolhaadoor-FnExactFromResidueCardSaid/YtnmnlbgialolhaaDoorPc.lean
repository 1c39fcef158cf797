/- Contracts of single functions, and plain lemmas, on which the exact laws of this seat rest; each holds under the conditions that it states. -/
import Derived.Test.YtnmnlbgialolhaaDoorBl
import Derived.Test.YtnmnlbgialolhaaDoorHd
import Derived.Laws.IdiomStrings
import Derived.Deep.WholeRow
import Derived.OwnWalk
import Derived.OneCell
import Derived.Test.YtnmnlbgialolhaaDoorShelf
import Derived.Lib.BufferKept
import Derived.Lib.BufferOld
namespace Go.Proofs.YtnmnlbgialolhaaDoor
set_option linter.unusedVariables false
open Go.RowKit

/-- a valid picture lies behind the pointer -/
structure PicAt (w : World) (pb po : Nat) (ss : List ByteArray) : Prop where
  ok : validB ss = true
  cell : ∃ v, w.cell? ⟨pb, po, none⟩ = some v ∧ Sl w v ss

structure VP (ss : List ByteArray) : Prop where
  n1 : 1 ≤ ss.length
  n16 : ss.length ≤ 16
  w1 : 1 ≤ (row0 ss).size
  w16 : (row0 ss).size ≤ 16
  rows : ∀ j, j < ss.length → (ss.getD j ByteArray.empty).size = (row0 ss).size ∧ ∀ (i : Nat) (hi : i < (ss.getD j ByteArray.empty).size), pixB ((ss.getD j ByteArray.empty)[i]'hi) = true

theorem vp_of {ss : List ByteArray} (h : validB ss = true) : VP ss := by
  unfold validB at h
  simp only [Bool.and_eq_true, decide_eq_true_eq] at h
  obtain ⟨⟨⟨⟨h1, h2⟩, h3⟩, h4⟩, h5⟩ := h
  refine ⟨h1, h2, h3, h4, fun j hj => ?_⟩
  rw [List.all_eq_true] at h5
  have := h5 _ (List.getElem_mem hj)
  have e : ss.getD j ByteArray.empty = ss[j] := by rw [List.getD_eq_getElem?_getD, List.getElem?_eq_getElem hj]; rfl
  unfold rowB at this
  simp only [Bool.and_eq_true, decide_eq_true_eq] at this
  refine ⟨by rw [e]; exact this.1, fun i hi => ?_⟩
  have h6 := this.2
  rw [List.all_eq_true] at h6
  have hm : (ss.getD j ByteArray.empty)[i] ∈ ss[j].data.toList := by rw [← e]; exact Array.mem_toList_iff.2 (Array.getElem_mem _)
  exact h6 _ hm

theorem PicAt.open' {w : World} {pb po : Nat} {ss : List ByteArray} (h : PicAt w pb po ss) : ∃ b off cap, w.cell? ⟨pb, po, none⟩ = some (.slice (some ⟨b, off, none⟩) ss.length cap) ∧ Strs w b off ss ∧ VP ss := by
  obtain ⟨hok, v, hc, hs⟩ := h
  have V := vp_of hok
  rcases hs with ⟨ao, cap, rfl, rfl⟩ | ⟨b, off, cap, rfl, hpos, hst⟩
  · exact absurd V.n1 (by simp)
  · exact ⟨b, off, cap, hc, hst, V⟩

theorem PicAt.below {w w' : World} {pb po : Nat} {ss : List ByteArray} (h : PicAt w pb po ss) (hb : Below w.heap.size w w') : PicAt w' pb po ss := by
  obtain ⟨hok, v, hc, hs⟩ := h
  exact ⟨hok, v, cell_kept hb hc, hs.below hb⟩
end Go.Proofs.YtnmnlbgialolhaaDoor

/- Contracts of single functions, and plain lemmas, on which the exact laws of this seat rest; each holds under the conditions that it states. -/
namespace Go.Proofs.YtnmnlbgialolhaaDoor
set_option linter.unusedVariables false
open Go.RowKit

/-! ### pictures made of pixels -/
def mkRow (f : Nat → Bool) (n : Nat) : List UInt8 := (List.range n).map fun x => if f x then 35 else 46
theorem mkRow_len (f : Nat → Bool) (n : Nat) : (mkRow f n).length = n := by simp [mkRow]
theorem mkRow_snoc (f : Nat → Bool) (n : Nat) : mkRow f (n + 1) = mkRow f n ++ [if f n then 35 else 46] := by simp [mkRow, List.range_succ]
def rowOf (f : Nat → Bool) (n : Nat) : ByteArray := ⟨(mkRow f n).toArray⟩
def mkPic (wd h : Nat) (f : Nat → Nat → Bool) : List ByteArray := (List.range h).map fun y => rowOf (f y) wd
theorem mkPic_len (wd h : Nat) (f : Nat → Nat → Bool) : (mkPic wd h f).length = h := by simp [mkPic]
theorem mkPic_snoc (wd h : Nat) (f : Nat → Nat → Bool) : mkPic wd (h + 1) f = mkPic wd h f ++ [rowOf (f h) wd] := by simp [mkPic, List.range_succ]

def bytesV (l : List UInt8) : List Value := l.map fun c => .int .u8 c.toNat
theorem bytesV_snoc (l : List UInt8) (c : UInt8) : bytesV (l ++ [c]) = bytesV l ++ [.int .u8 c.toNat] := by simp [bytesV]
theorem bytesV_len (l : List UInt8) : (bytesV l).length = l.length := by simp [bytesV]

theorem Tryd.info5 : (Tryd.prog.info? 5).map (fun i => (i.zero, i.size, i.bytes)) = some (some (.int .u8 0), 1, 1) := by kernel_rfl

/-- the bools bs lie there -/
def Bools (w : World) (b off : Nat) (bs : List Bool) : Prop := b < w.heap.size ∧ ∀ i, i < bs.length → w.cell? ⟨b, off + i, none⟩ = some (.bool (bs.getD i false))
theorem Bools.below {w w' : World} {b off : Nat} {bs : List Bool} (h : Bools w b off bs) (hb : Below w.heap.size w w') : Bools w' b off bs :=
  ⟨Nat.lt_of_lt_of_le h.1 hb.size, fun i hi => cell_kept' hb (h.2 i hi)⟩
where cell_kept' {w w1 : World} {b o : Nat} {v : Value} (hb : Below w.heap.size w w1) (h : w.cell? ⟨b, o, none⟩ = some v) : w1.cell? ⟨b, o, none⟩ = some v := (hb.cell (p := ⟨b, o, none⟩) (blk_lt h)).trans h

/-- a row of bytes is kept while another owned row of another type grows -/
theorem own_far {w w' : World} {base base2 n n2 : Nat} {e e2 : TypeId} {s s2 : Nat} {v v2 : Value} {xs xs2 : List Value} (h : w.ownsRow base e s v n xs) (h2 : w.ownsRow base2 e2 s2 v2 n2 xs2) (he : e ≠ e2) (hg : w.grownBy w' v2.ownBlock) : w'.ownsRow base e s v n xs := by
  refine h.kept hg ?_
  rcases h.2 with ⟨hv, _⟩ | ⟨g, cap, cur, hv, _, hg1, _⟩
  · left; subst hv; rfl
  · right
    subst hv
    rcases h2.2 with ⟨hv2, _⟩ | ⟨g2, cap2, cur2, hv2, _, hg2, _⟩
    · subst hv2; simp [Value.ownBlock]
    · subst hv2
      simp only [Value.ownBlock]
      intro e1
      have e1 := Option.some.inj e1
      subst e1
      rw [hg1] at hg2
      simp at hg2
      exact he hg2.2

/-- a variable of the call's own (a block of another type) is kept while an owned row grows -/
theorem var_far {w w' : World} {base2 n2 : Nat} {e2 t : TypeId} {s2 P : Nat} {v2 : Value} {xs2 : List Value} {cs : Array Value} (h : w.heap[P]? = some (.cells cs t (0, 0))) (h2 : w.ownsRow base2 e2 s2 v2 n2 xs2) (he : t ≠ e2) (hg : w.grownBy w' v2.ownBlock) : w'.heap[P]? = some (.cells cs t (0, 0)) := by
  rw [hg.block P (Array.getElem?_eq_some_iff.1 h).1 ?_]; exact h
  rcases h2.2 with ⟨hv2, _⟩ | ⟨g2, cap2, cur2, hv2, _, hg2, _⟩
  · subst hv2; simp [Value.ownBlock]
  · subst hv2
    simp only [Value.ownBlock]
    intro e1
    have e1 := Option.some.inj e1
    subst e1
    rw [h] at hg2
    simp at hg2
    exact he hg2.2

/-- a variable's block is not the owned row's block -/
theorem own_ne {w : World} {base n : Nat} {e t : TypeId} {s P : Nat} {v : Value} {xs : List Value} {cs : Array Value} (h : w.ownsRow base e s v n xs) (hP : w.heap[P]? = some (.cells cs t (0, 0))) (he : t ≠ e) : v.ownBlock ≠ some P := by
  rcases h.2 with ⟨hv, _⟩ | ⟨g, cap, cur, hv, _, hg, _⟩
  · subst hv; simp [Value.ownBlock]
  · subst hv
    simp only [Value.ownBlock]
    intro e1
    have e1 := Option.some.inj e1
    subst e1
    rw [hP] at hg
    simp at hg
    exact he hg.2

theorem make_step {w wr w1 : World} {P Hb x : Nat} {rv v pv hv : Value} {xs : List Value} {ss : List ByteArray} {X : Obj}
    (hown : wr.ownsRow w.heap.size 5 1 rv x xs) (hP : wr.heap[P]? = some (.cells #[pv] 26 (0, 0))) (hrows : OwnP wr w.heap.size v ss) (hH : wr.heap[Hb]? = some (.cells #[hv] 26 (0, 0))) (hbel : Below w.heap.size w wr)
    (h3 : (wr.alloc X).grownBy w1 rv.ownBlock) :
    w1.heap[P]? = some (.cells #[pv] 26 (0, 0)) ∧ OwnP w1 w.heap.size v ss ∧ w1.heap[Hb]? = some (.cells #[hv] 26 (0, 0)) ∧ Below w.heap.size w w1 := by
  have o1 := hown.alloc X
  have s := hbel.size
  refine ⟨var_far (by rw [Below.heap_alloc _ _ _ (Array.getElem?_eq_some_iff.1 hP).1]; exact hP) o1 (by decide) h3, own_far (hrows.alloc X) o1 (by decide) h3, var_far (by rw [Below.heap_alloc _ _ _ (Array.getElem?_eq_some_iff.1 hH).1]; exact hH) o1 (by decide) h3, (hbel.alloc s X).grown h3 (by simp; omega) (fun k hk => (o1.lt k hk).1)⟩
theorem own_below {w w' : World} {base n s : Nat} {e : TypeId} {v : Value} {xs : List Value} (h : w.ownsRow base e s v n xs) (hb : Below w.heap.size w w') : w'.ownsRow base e s v n xs := by
  obtain ⟨h1, h2⟩ := h
  refine ⟨h1, ?_⟩
  rcases h2 with h2 | ⟨g, cap, cur, hv, hg, hh, r⟩
  · exact Or.inl h2
  · exact Or.inr ⟨g, cap, cur, hv, hg, (hb.block g (Array.getElem?_eq_some_iff.1 hh).1).trans hh, r⟩

/-- two rows that the call owns, one made after the other: the elder is kept while the younger grows -/
theorem own_apart {w w' : World} {base base2 n n2 s s2 k : Nat} {e e2 : TypeId} {v v2 : Value} {xs xs2 : List Value} (h : w.ownsRow base e s v n xs) (h2 : w.ownsRow base2 e2 s2 v2 n2 xs2) (hk : ∀ j, v.ownBlock = some j → j < base2) (hg : w.grownBy w' v2.ownBlock) : w'.ownsRow base e s v n xs := by
  refine h.kept hg ?_
  rcases h1 : v.ownBlock with _ | j
  · left; rfl
  · right
    intro e1
    exact absurd (h2.lt j e1.symm).1 (by have := hk j h1; omega)

/-- a younger row is kept while an elder one is marked -/
theorem own_apart' {w w' : World} {base base2 n n2 s s2 : Nat} {e e2 : TypeId} {v v2 : Value} {xs xs2 : List Value} (h : w.ownsRow base e s v n xs) (h2 : w.ownsRow base2 e2 s2 v2 n2 xs2) (hk : ∀ j, v2.ownBlock = some j → j < base) (hg : w.grownBy w' v2.ownBlock) : w'.ownsRow base e s v n xs := by
  refine h.kept hg ?_
  rcases h1 : v.ownBlock with _ | j
  · left; rfl
  · right
    intro e1
    exact absurd (h.lt j h1).1 (by have := hk j e1.symm; omega)
end Go.Proofs.YtnmnlbgialolhaaDoor

/- Contracts of single functions, and plain lemmas, on which the exact laws of this seat rest; each holds under the conditions that it states. -/
namespace Go.Proofs.YtnmnlbgialolhaaDoor
set_option linter.unusedVariables false
open Go.RowKit

/-! ### a row of a matrix as text: the shelf's buffer -/
theorem byteCells_snoc (l : List UInt8) (c : UInt8) : Lib.byteCells (l ++ [c]) = Lib.byteCells l ++ [.int .u8 c.toNat] := by simp [Lib.byteCells]

theorem text_step {w wr w2 : World} {n k : Nat} {C : Array Value} {t : TypeId} (hC : wr.heap[n]? = some (.cells C t (0, 0))) (hn : n < k) (h : Below n w wr) (h2 : Below k wr w2) : w2.heap[n]? = some (.cells C t (0, 0)) ∧ Below n w w2 :=
  ⟨(h2.block n hn).trans hC, h.trans (h2.mono (by omega))⟩

set_option maxHeartbeats 4000000 in
set_option maxRecDepth 100000 in
theorem rowText_any (C : Array Value) (a b : Nat) (g : Nat → Nat) (y : Int) (w : World) (hC : C = mat a b g) (ha : a ≤ 16) (hb : b ≤ 16) (hg : ∀ j, g j < 4294967296) :
    Calls Tryd.prog 92 #[.agg C, .int .i64 y] w (fun e w' => e = .returned (.string (rowOf (fun x => blackB a b g x y) a)) ∧ Below w.heap.size w w') := by
  obtain ⟨f, hf⟩ : ∃ f : Nat → Bool, (fun x : Nat => blackB a b g (x : Int) y) = f := ⟨_, rfl⟩
  have HB := Lib.hid (fun (x : Nat) (W : World) => black_any C a b g x y W hC ha hb hg)
  have hf' : ∀ x : Nat, blackB a b g (x : Int) y = f x := fun x => by rw [← hf]
  have HF := Lib.hid hf'
  rw [hf]
  have hsz : C.size = 18 := by rw [hC]; rfl
  have HI : (Tryd.prog.info? 63).map (·.size) = some C.size := by rw [hsz]; exact infoM
  have HI' := Lib.hid HI
  have hl0 : (w.alloc (.cells C 63)).heap[w.heap.size]? = some (.cells C 63 (0, 0)) := heap_alloc_last w _
  have hl1 : ((w.alloc (.cells C 63)).alloc (.cells #[.slice none 0 0, .int .i64 0, .int .i8 0] 145)).heap[w.heap.size]? = some (.cells C 63 (0, 0)) := by
    rw [Below.heap_alloc _ _ _ (by simp)]; exact hl0
  have c0 : ((w.alloc (.cells C 63)).alloc (.cells #[.slice none 0 0, .int .i64 0, .int .i8 0] 145)).cell? ⟨w.heap.size, 0, none⟩ = some (.int .i64 a) := by
    rw [Joins.cell_of_block hl1 0, hC]; rfl
  have hI0 : Lib.IsBuffer 145 5 (w.heap.size + 1) (w.heap.size + 1) (Lib.byteCells (mkRow f 0)) ((w.alloc (.cells C 63)).alloc (.cells #[.slice none 0 0, .int .i64 0, .int .i8 0] 145)) := by
    have := Lib.fresh_isBuffer 145 5 (w.alloc (.cells C 63))
    simp only [World.size_alloc] at this
    exact this
  have L1 := Lib.hid hl1
  have I0 := Lib.hid hI0
  clear HI hsz hC hg hf hf' hl0 hl1 hI0
  go_enter Tryd.func92, Tryd.ntmps92
  go_wp2
  go_loopw [9] (fun xv wr => ∃ x : Nat, x ≤ a ∧ xv = .int .i64 x ∧ Lib.IsBuffer 145 5 (w.heap.size + 1) (w.heap.size + 1) (Lib.byteCells (mkRow f x)) wr ∧ wr.heap[w.heap.size]? = some (.cells C 63 (0, 0)) ∧ Below w.heap.size w wr) (fun xv _ => a - (intOf xv).toNat)
  case atStart => exact ⟨0, Nat.zero_le _, rfl, I0.out, L1.out, Joins.below_alloc2 _ _ _⟩
  case round =>
    obtain ⟨x, hx, rfl, hI, hl, hbel⟩ := hrel
    have hsz := hbel.size
    have hlt := hI.lt
    have hone : Hid (∀ v ∈ Lib.byteCells (mkRow f x), v.oneCell' = true) := Lib.byteCells_one _
    have hln : Hid ((Lib.byteCells (mkRow f x)).length = x) := by show _ = _; rw [Lib.byteCells_length, mkRow_len]
    have HI0 := Lib.hid hI
    have HL := Lib.hid hl
    have HBe := Lib.hid hbel
    clear hI hl hbel
    by_cases hlt2 : x < a
    · have kx0 : (x : Int) < (a : Int) := by omega
      go_wp2_with (first | (refine wpList_load_row rfl 63 _ rfl w.heap.size rfl 63 C (0, 0) _ HL.out Tryd.underlying63 rfl HI'.out ?_) | (refine (HB.out x _).mono ?_; rintro e w1 ⟨rfl, hb1⟩; rw [HF.out x]; refine Hid.out ?_))
      refine Lib.hid ?_
      have I1 := Lib.hid (HI0.out.old hb1)
      have L2 := Lib.hid ((hb1.block w.heap.size (by omega)).trans HL.out)
      have B1 := Lib.hid (HBe.out.trans (hb1.mono hsz))
      have hsz1 := B1.out.size
      have hlt1 : w.heap.size + 1 < w1.heap.size := I1.out.lt
      have hsn := mkRow_snoc f x
      clear hb1
      cases hbit : f x with
      | true =>
        rw [hbit] at hsn
        have HSN : Hid (mkRow f (x + 1) = mkRow f x ++ [35]) := hsn
        clear hbit hsn
        go_wp2_with (refine (Tryd.Buffer_WriteByte_k _ _ _ _ w1 I1.out (by omega) hone.out (by rw [hln.out]; omega)).mono ?_; rintro e W2 ⟨rfl, hI2, hb2, hkept⟩; refine Hid.out ?_)
        refine Lib.hid ?_
        have S := Lib.hid (text_step L2.out (by omega) B1.out hb2)
        have I2 : Hid (Lib.IsBuffer 145 5 (w.heap.size + 1) (w.heap.size + 1) (Lib.byteCells (mkRow f (x + 1))) W2) := by
          show Lib.IsBuffer _ _ _ _ _ _
          rw [HSN.out, byteCells_snoc]; exact hI2
        clear hI2 hb2 hkept
        go_wp2
        go_roundw
        case rel => exact ⟨x + 1, by omega, by go_num, I2.out, S.out.1, S.out.2⟩
        case measure => simp [intOf]; omega
      | false =>
        rw [hbit] at hsn
        have HSN : Hid (mkRow f (x + 1) = mkRow f x ++ [46]) := hsn
        clear hbit hsn
        go_wp2_with (refine (Tryd.Buffer_WriteByte_k _ _ _ _ w1 I1.out (by omega) hone.out (by rw [hln.out]; omega)).mono ?_; rintro e W2 ⟨rfl, hI2, hb2, hkept⟩; refine Hid.out ?_)
        refine Lib.hid ?_
        have S := Lib.hid (text_step L2.out (by omega) B1.out hb2)
        have I2 : Hid (Lib.IsBuffer 145 5 (w.heap.size + 1) (w.heap.size + 1) (Lib.byteCells (mkRow f (x + 1))) W2) := by
          show Lib.IsBuffer _ _ _ _ _ _
          rw [HSN.out, byteCells_snoc]; exact hI2
        clear hI2 hb2 hkept
        go_wp2
        go_roundw
        case rel => exact ⟨x + 1, by omega, by go_num, I2.out, S.out.1, S.out.2⟩
        case measure => simp [intOf]; omega
    · obtain rfl : x = a := by omega
      go_wp2_with (refine (Tryd.Buffer_String _ _ (mkRow f x) wr HI0.out).mono ?_; rintro e W2 ⟨rfl, n, rfl⟩)
      go_wp2
      go_ret
      exact ⟨rfl, HBe.out.trans ⟨rfl, rfl, rfl, Nat.le_refl _, fun _ _ => rfl⟩⟩
end Go.Proofs.YtnmnlbgialolhaaDoor

/- Contracts of single functions, and plain lemmas, on which the exact laws of this seat rest; each holds under the conditions that it states. -/
namespace Go.Proofs.YtnmnlbgialolhaaDoor
set_option linter.unusedVariables false
open Go.RowKit

set_option maxHeartbeats 4000000 in
set_option maxRecDepth 100000 in
theorem picture_any (C : Array Value) (a b : Nat) (g : Nat → Nat) (w : World) (hC : C = mat a b g) (ha : a ≤ 16) (hb : b ≤ 16) (hg : ∀ j, g j < 4294967296) :
    Calls Tryd.prog 44 #[.agg C] w (TookPic w (mkPic a b (fun y x => blackB a b g x y))) := by
  obtain ⟨i0, hi, hz0, hz1, hz2⟩ := info_parts Tryd.info9
  obtain ⟨R, hR⟩ : ∃ R : Nat → ByteArray, (fun y : Nat => rowOf (fun x => blackB a b g x (y : Int)) a) = R := ⟨_, rfl⟩
  have ht : ∀ (y : Nat) (W : World), Calls Tryd.prog 92 #[.agg C, .int .i64 y] W (fun e w' => e = .returned (.string (R y)) ∧ Below W.heap.size W w') := fun y W => by
    have := rowText_any C a b g (y : Int) W hC ha hb hg
    rw [← hR]; exact this
  have HT := Lib.hid ht
  have hfin : mkPic a b (fun y x => blackB a b g x y) = (List.range b).map R := by rw [← hR]; rfl
  rw [hfin]
  have hsz : C.size = 18 := by rw [hC]; rfl
  have HI : (Tryd.prog.info? 63).map (·.size) = some C.size := by rw [hsz]; exact infoM
  have HI' := Lib.hid HI
  have hl1 : ((w.alloc (.cells C 63)).alloc (.cells #[.slice none 0 0] 26)).heap[w.heap.size]? = some (.cells C 63 (0, 0)) := by
    rw [Below.heap_alloc _ _ _ (by simp)]; exact heap_alloc_last w _
  have hp1 : ((w.alloc (.cells C 63)).alloc (.cells #[.slice none 0 0] 26)).heap[w.heap.size + 1]? = some (.cells #[.slice none 0 0] 26 (0, 0)) := by
    have := heap_alloc_last (w.alloc (.cells C 63)) (.cells #[.slice none 0 0] 26)
    simp only [World.size_alloc] at this
    exact this
  have c0 : ((w.alloc (.cells C 63)).alloc (.cells #[.slice none 0 0] 26)).cell? ⟨w.heap.size, 1, none⟩ = some (.int .i64 b) := by
    rw [Joins.cell_of_block hl1 1, hC]; rfl
  have L1 := Lib.hid hl1
  have P1 := Lib.hid hp1
  clear HI hsz hC hg hR ht hfin hl1 hp1
  go_enter Tryd.func44, Tryd.ntmps44
  go_wp2_with (at_make; refine wpList_make_full _ rfl _ _ 22 rfl w.heap.size 9 i0 (.string ⟨#[]⟩) 1 Tryd.underlying22 hi hz0 hz1 _ _ _ _ b rfl rfl rfl rfl ?c1 ?c2 (by simp; omega) ?_)
  case c1 => rw [hz2]; omega
  case c2 => unfold maxLen; omega
  intro w1 hown hgr
  rw [toList_madeCells_one] at hown
  have hbel : Below w.heap.size w w1 := (Joins.below_alloc2 w _ _).grown hgr (by simp <;> omega) (fun k h => by cases h)
  have hl2 : w1.heap[w.heap.size]? = some (.cells C 63 (0, 0)) := (hgr.block _ (by simp <;> omega) (by simp)).trans L1.out
  have hp2 : w1.heap[w.heap.size + 1]? = some (.cells #[.slice none 0 0] 26 (0, 0)) := (hgr.block _ (by simp <;> omega) (by simp)).trans P1.out
  have c1 : w1.cell? ⟨w.heap.size, 1, none⟩ = some (.int .i64 b) := (World.cell?_of_block (hl2.trans L1.out.symm)).trans c0
  have HO := Lib.hid hown
  have HL2 := Lib.hid hl2
  have HP2 := Lib.hid hp2
  have HBe := Lib.hid hbel
  clear hgr hown hbel hl2 hp2 c0
  go_wp2
  go_loopw [10] (fun yv wr => ∃ y : Nat, y ≤ b ∧ yv = .int .i64 y ∧ wr.ownsRow w.heap.size 9 1 (.slice (some ⟨w.heap.size + 1 + 1, 0, none⟩) b b) b ((List.range y).map (fun i => Value.string (R i)) ++ List.replicate (b - y) (.string ⟨#[]⟩)) ∧ wr.heap[w.heap.size]? = some (.cells C 63 (0, 0)) ∧ wr.heap[w.heap.size + 1]? = some (.cells #[.slice none 0 0] 26 (0, 0)) ∧ Below w.heap.size w wr) (fun yv _ => b - (intOf yv).toNat)
  case atStart => exact ⟨0, Nat.zero_le _, rfl, by simpa using HO.out, HL2.out, HP2.out, HBe.out⟩
  case round =>
    clear HO HL2 HP2 HBe
    obtain ⟨y, hy, rfl, hown, hl, hp, hbel⟩ := hrel
    by_cases hlt : y < b
    · have kyb : (y : Int) < (b : Int) := by omega
      have hs0 := hbel.size
      have HO := Lib.hid hown
      have HL := Lib.hid hl
      have HP := Lib.hid hp
      have HBe := Lib.hid hbel
      clear hown hl hp hbel
      go_wp2_with (first | (refine wpList_load_row rfl 63 _ rfl w.heap.size rfl 63 C (0, 0) _ HL.out Tryd.underlying63 rfl HI'.out ?_) | (refine (HT.out y _).mono ?_; rintro e w2 ⟨rfl, hb2⟩; refine Hid.out ?_))
      refine Lib.hid ?_
      have hown := own_below HO.out hb2
      have hl := (hb2.block _ (Array.getElem?_eq_some_iff.1 HL.out).1).trans HL.out
      have hp := (hb2.block _ (Array.getElem?_eq_some_iff.1 HP.out).1).trans HP.out
      have hbel := HBe.out.trans (hb2.mono hs0)
      have hfz := hown.frozenAt y
      have hold := hown.cellAt y (by omega)
      rw [List.getElem?_append_right (by simp)] at hold
      simp only [List.length_map, List.length_range, Nat.sub_self] at hold
      rw [show b - y = (b - (y + 1)) + 1 from by omega, List.replicate_succ] at hold
      simp only [List.getElem?_cons_zero] at hold
      have hst := hown.stored y (.string (R y))
      rw [set_prefix (fun i => Value.string (R i)) _ b y hlt] at hst
      have HS := Lib.hid hst
      have HL3 := Lib.hid hl
      have HP3 := Lib.hid hp
      have HB3 := Lib.hid hbel
      obtain ⟨s, hs⟩ : ∃ s, R y = s := ⟨_, rfl⟩
      rw [hs] at HS ⊢
      clear hst hown hbel hs hl hp hb2
      go_wp2
      go_roundw
      case rel => exact ⟨y + 1, by omega, by go_num, HS.out.1, (Below.heap_setCell _ _ _ _ (by simp; omega)).trans HL3.out, (Below.heap_setCell _ _ _ _ (by simp)).trans HP3.out, HB3.out.setCell (by simp; omega) _⟩
      case measure => simp [intOf]; omega
    · obtain rfl : y = b := by omega
      have hfr : wr.frozen? ⟨w.heap.size + 1, 0, none⟩ = false := free_of_one hp
      have hc : wr.cell? ⟨w.heap.size + 1, 0, none⟩ = some (.slice none 0 0) := cell_of_one hp
      have hlen : ((List.range y).map R).length = y := by simp
      have hO : OwnP wr w.heap.size (.slice (some ⟨w.heap.size + 1 + 1, 0, none⟩) y y) ((List.range y).map R) := by
        unfold OwnP
        rw [hlen, List.map_map]
        simp only [Nat.sub_self, List.replicate_zero, List.append_nil] at hown
        exact hown
      have HO := Lib.hid hO
      have HL := Lib.hid hl
      have HP := Lib.hid hp
      have HBe := Lib.hid hbel
      clear hown hl hp hbel hO
      go_wp2
      refine bodyPost_ret (v := .agg #[.slice (some ⟨w.heap.size + 1 + 1, 0, none⟩) y y]) (by simp [results, Tryd.results44, go_sem, cell_of_one (one_setCell HP.out)]) rfl ⟨w.heap.size + 1 + 1, y, by rw [hlen], ?_, HBe.out.setCell (by simp) _⟩
      rw [hlen]
      exact Joins.ownsRow_le (ownsRow_setCell_other HO.out (a := ⟨w.heap.size + 1, 0, none⟩) (own_ne HO.out HP.out (by decide)) _) (by omega)
end Go.Proofs.YtnmnlbgialolhaaDoor
