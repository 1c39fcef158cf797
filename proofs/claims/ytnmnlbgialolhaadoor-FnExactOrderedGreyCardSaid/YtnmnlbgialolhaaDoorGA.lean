/- Contracts of single functions, and plain lemmas, on which the exact laws of this seat rest; each holds under the conditions that it states. -/
import Derived.Test.YtnmnlbgialolhaaDoorPb
import Derived.Test.YtnmnlbgialolhaaDoorWd
import Derived.Test.YtnmnlbgialolhaaDoorLib
import Derived.Test.YtnmnlbgialolhaaDoorV5
namespace Go.Proofs.YtnmnlbgialolhaaDoor
set_option linter.unusedVariables false
open Go.RowKit

/-! ### what the walks of the laws of one shape share: what lies in a stretch of blocks is kept while another stretch is written -/
/-- all is kept but for the blocks from l on, below r -/
structure Far (l r : Nat) (W W' : World) : Prop where
  os : W'.os = W.os
  tape : W'.tape = W.tape
  output : W'.output = W.output
  size : W.heap.size ≤ W'.heap.size
  block : ∀ k, k < W.heap.size → (k < l ∨ r ≤ k) → W'.heap[k]? = W.heap[k]?

theorem Far.trans {l r : Nat} {a b c : World} (h : Far l r a b) (k : Far l r b c) : Far l r a c :=
  ⟨k.os.trans h.os, k.tape.trans h.tape, k.output.trans h.output, Nat.le_trans h.size k.size, fun i hi hd => (k.block i (Nat.lt_of_lt_of_le hi h.size) hd).trans (h.block i hi hd)⟩

theorem Far.ofB {W W' : World} (h : Below W.heap.size W W') : Far 0 0 W W' := ⟨h.os, h.tape, h.output, h.size, fun k hk _ => h.block k hk⟩
theorem Far.ofG {W W' : World} {l r : Nat} {row : Option Nat} (hg : W.grownBy W' row) (h : ∀ j, row = some j → l ≤ j ∧ j < r) : Far l r W W' :=
  ⟨hg.os, hg.tape, hg.output, hg.size, fun k hk hd => hg.block k hk (fun e => by have := h k e.symm; omega)⟩
theorem Far.bel {W W' w : World} {l r n : Nat} (h : Far l r W W') (hb : Below n w W) (hd : n ≤ l ∨ r = 0) (hs : n ≤ w.heap.size) : Below n w W' :=
  ⟨h.os.trans hb.os, h.tape.trans hb.tape, h.output.trans hb.output, Nat.le_trans hb.size h.size, fun k hk => (h.block k (Nat.lt_of_lt_of_le hk (Nat.le_trans hs hb.size)) (by omega)).trans (hb.block k hk)⟩
theorem Far.cells {W W' : World} {l r b : Nat} {x : Obj} (h : Far l r W W') (hc : W.heap[b]? = some x) (hd : b < l ∨ r ≤ b) : W'.heap[b]? = some x :=
  (h.block b (Array.getElem?_eq_some_iff.1 hc).1 hd).trans hc

/-- it rests on the blocks from lo on, below hi, alone -/
def Liv (lo hi : Nat) (O : World → Prop) : Prop := ∀ l r W W', Far l r W W' → (hi ≤ l ∨ r ≤ lo) → O W → O W'

/-- a row of the call's own in a stretch of blocks -/
structure Row (e : TypeId) (s lo hi : Nat) (v : Value) (n : Nat) (xs : List Value) (W : World) : Prop where
  o : W.ownsRow lo e s v n xs
  lt : ∀ j, v.ownBlock = some j → j < hi
theorem Row.inb {e : TypeId} {s lo hi n : Nat} {v : Value} {xs : List Value} {W : World} (h : Row e s lo hi v n xs W) : ∀ j, v.ownBlock = some j → lo ≤ j ∧ j < hi :=
  fun j hj => ⟨(h.o.lt j hj).1, h.lt j hj⟩
theorem Row.liv {e : TypeId} {s lo hi n : Nat} {v : Value} {xs : List Value} : Liv lo hi (Row e s lo hi v n xs) := by
  intro l r W W' hf hd h
  refine ⟨⟨h.o.1, ?_⟩, h.lt⟩
  rcases h.o.2 with h2 | ⟨g, cap, cur, hv, hb, hg, rest⟩
  · exact Or.inl h2
  · subst hv
    have h1 := h.inb g rfl
    exact Or.inr ⟨g, cap, cur, rfl, hb, hf.cells hg (by omega), rest⟩

/-- a value of the call's own in a variable: its memory from lo on, below hi; all of it from L on, below H -/
structure VarO (O : World → Prop) (t : TypeId) (b : Nat) (v : Value) (lo hi L H : Nat) (W : World) : Prop where
  c : W.heap[b]? = some (.cells #[v] t (0, 0))
  o : O W
  liv : Liv lo hi O
  hb : b < lo ∨ hi ≤ b
  hl : L ≤ lo
  hh : hi ≤ H
  hb1 : L ≤ b
  hb2 : b < H
section
variable {O O' : World → Prop} {t : TypeId} {b lo hi L H l r : Nat} {v : Value} {W W' : World}
theorem VarO.far (h : VarO O t b v lo hi L H W) (hf : Far l r W W') (hd : H ≤ l ∨ r ≤ L) : VarO O t b v lo hi L H W' :=
  ⟨hf.cells h.c (by have := h.hb1; have := h.hb2; omega), h.liv l r W W' hf (by have := h.hl; have := h.hh; omega) h.o, h.liv, h.hb, h.hl, h.hh, h.hb1, h.hb2⟩
theorem VarO.far0 (h : VarO O t b v lo hi L H W) (hf : Far 0 0 W W') : VarO O t b v lo hi L H W' := h.far hf (Or.inr (Nat.zero_le _))
theorem VarO.val (h : VarO O t b v lo hi L H W) : W.cell? ⟨b, 0, none⟩ = some v := cell_of_one h.c
theorem VarO.marked (h : VarO O t b v lo hi L H W) (hf : Far lo hi W W') (ho : O' W') (hl : Liv lo hi O') : VarO O' t b v lo hi L H W' :=
  ⟨hf.cells h.c (by have := h.hb; omega), ho, hl, h.hb, h.hl, h.hh, h.hb1, h.hb2⟩
/-- the cell of a variable that is just made -/
theorem VarO.new (ho : O W) (hl : Liv lo hi O) (hhi : hi ≤ W.heap.size) (hf : Far 0 0 W (W.alloc (.cells #[v] t)))  (hL : L ≤ lo) (hL2 : L ≤ W.heap.size) : VarO O t W.heap.size v lo hi L (W.heap.size + 1) (W.alloc (.cells #[v] t)) :=
  ⟨heap_alloc_last W _, hl 0 0 W _ hf (Or.inr (Nat.zero_le _)) ho, hl, Or.inr hhi, hL, by omega, hL2, by omega⟩
end
theorem far_alloc (W : World) (o : Obj) : Far 0 0 W (W.alloc o) := Far.ofB (Joins.below_alloc1 W o)
/-- a store into one's own variable -/
theorem far_set (W : World) (b : Nat) (v : Value) : Far b (b + 1) W (W.setCell ⟨b, 0, none⟩ v) :=
  ⟨rfl, rfl, rfl, by simp [World.setCell], fun k hk hd => Below.heap_setCell W ⟨b, 0, none⟩ v k (by show k ≠ b; omega)⟩
theorem VarO.set {O : World → Prop} {t : TypeId} {b lo hi L H : Nat} {v x : Value} {W : World} (hc : W.heap[b]? = some (.cells #[x] t (0, 0))) (ho : O W) (hl : Liv lo hi O) (hb : b < lo ∨ hi ≤ b) (hL : L ≤ lo) (hH : hi ≤ H) (h1 : L ≤ b) (h2 : b < H) :
    VarO O t b v lo hi L H (W.setCell ⟨b, 0, none⟩ v) :=
  ⟨one_setCell hc, hl b (b + 1) W _ (far_set W b v) (by omega) ho, hl, hb, hL, hH, h1, h2⟩

/-! ### the kinds -/
/-- a picture's rows -/
abbrev PicO (lo hi : Nat) (v : Value) (ss : List ByteArray) : World → Prop := Row 9 1 lo hi v ss.length (ss.map Value.string)
theorem PicO.of {W : World} {lo hi : Nat} {v : Value} {ss : List ByteArray} (h : OwnP W lo v ss) (hh : W.heap.size ≤ hi) : PicO lo hi v ss W :=
  ⟨h, fun j hj => Nat.lt_of_lt_of_le (h.lt j hj).2 hh⟩
theorem PicO.sl {W : World} {lo hi : Nat} {v : Value} {ss : List ByteArray} (h : PicO lo hi v ss W) : Sl W v ss := OwnP.sl h.o
theorem mark_pic (v : Value) (ss : List ByteArray) (lo hi k : Nat) (W : World) (h1 : 1 ≤ k) (h2 : k + ss.length ≤ 9000000) (h : PicO lo hi v ss W) :
    Calls Tryd.prog 15 #[.agg #[v], .int .i64 k] W (fun e w' => e = .returned (.int .i64 ((k + ss.length : Nat) : Int)) ∧ PicO lo hi v (marks k ss.length) w' ∧ Far lo hi W w') :=
  (markPicture_any v ss lo k W h1 h2 h.o).mono fun e w' ⟨e1, ho, hg⟩ => ⟨e1, ⟨ho, h.lt⟩, Far.ofG hg h.inb⟩
end Go.Proofs.YtnmnlbgialolhaaDoor

/- Contracts of single functions, and plain lemmas, on which the exact laws of this seat rest; each holds under the conditions that it states. -/
namespace Go.Proofs.YtnmnlbgialolhaaDoor
set_option linter.unusedVariables false
open Go.RowKit

set_option maxHeartbeats 400000 in
theorem toStringS_any (b off n cap : Nat) (ss : List ByteArray) (w : World) (hn : ss.length = n) (hN : n ≤ 1048576) (hc : Strs w b off ss) :
    Calls Tryd.prog 39 #[.slice (some ⟨b, off, none⟩) n cap] w fun e w' =>
      e = .returned (.slice (some ⟨w.heap.size, 0, none⟩) n n) ∧ w'.ownsRow w.heap.size 9 1 (.slice (some ⟨w.heap.size, 0, none⟩) n n) n (ss.map Value.string) ∧ Below w.heap.size w w' := by
  obtain ⟨i0, hi, hz0, hz1, hz2⟩ := info_parts Tryd.info9
  obtain ⟨hb, hc⟩ := hc
  have HC := Lib.hid hc
  clear hc
  go_enter Tryd.func39, Tryd.ntmps39
  go_wp2_with (at_make; refine wpList_make_full _ rfl _ _ 22 rfl w.heap.size 9 i0 (.string ⟨#[]⟩) 1 Tryd.underlying22 hi hz0 hz1 _ _ _ _ n rfl rfl rfl rfl ?c1 ?c2 (Nat.le_refl _) ?_)
  case c1 => rw [hz2]; omega
  case c2 => unfold maxLen; omega
  intro w1 hown hg
  rw [toList_madeCells_one] at hown
  have hbel : Below w.heap.size w w1 := (Below.refl _ _).grown hg (Nat.le_refl _) (fun k h => by cases h)
  clear hg
  go_wp2
  go_loopw [4] (fun i wr => ∃ k : Nat, k ≤ n ∧ i = .int .i64 k ∧ wr.ownsRow w.heap.size 9 1 (.slice (some ⟨w.heap.size, 0, none⟩) n n) n ((List.range k).map (fun i => Value.string (ss.getD i ByteArray.empty)) ++ List.replicate (n - k) (.string ⟨#[]⟩)) ∧ Below w.heap.size w wr) (fun i _ => n - (intOf i).toNat)
  case atStart => exact ⟨0, Nat.zero_le _, rfl, by simpa using hown, hbel⟩
  case round =>
    clear hown hbel
    obtain ⟨k, hk, rfl, hown, hbel⟩ := hrel
    by_cases hlt : k < n
    · have hcell : wr.cell? ⟨b, off + k, none⟩ = some (.string (ss.getD k ByteArray.empty)) := (hbel.cell (p := ⟨b, off + k, none⟩) hb).trans (HC.out k (by omega))
      have hfz := hown.frozenAt k
      have hold := hown.cellAt k (by omega)
      rw [List.getElem?_append_right (by simp)] at hold
      simp only [List.length_map, List.length_range, Nat.sub_self] at hold
      rw [show n - k = (n - (k + 1)) + 1 from by omega, List.replicate_succ] at hold
      simp only [List.getElem?_cons_zero] at hold
      have hst := hown.stored k (.string (ss.getD k ByteArray.empty))
      rw [set_prefix (fun i => Value.string (ss.getD i ByteArray.empty)) _ n k hlt] at hst
      have HS := Lib.hid hst
      have HO := Lib.hid hown
      have HB := Lib.hid hbel
      obtain ⟨s, hs⟩ : ∃ s, ss.getD k ByteArray.empty = s := ⟨_, rfl⟩
      rw [hs] at hcell HS
      have Hs := Lib.hid hs
      clear hst hown hbel hs
      go_wp2
      go_roundw
      case rel => exact ⟨k + 1, by omega, by go_num, HS.out.1, HB.out.setCell (Nat.le_refl _) _⟩
      case measure => simp [intOf]; omega
    · obtain rfl : k = n := by omega
      subst hn
      simp only [Nat.sub_self, List.replicate_zero, List.append_nil, range_getD] at hown
      have HO := Lib.hid hown
      have HB := Lib.hid hbel
      clear hown hbel
      go_wp2
      go_ret
      exact ⟨rfl, HO.out, HB.out⟩

set_option maxHeartbeats 400000 in
theorem toStringS_sl (v : Value) (ss : List ByteArray) (w : World) (hN : ss.length ≤ 1048576) (hv : Sl w v ss) :
    Calls Tryd.prog 39 #[v] w fun e w' => e = .returned (.slice (some ⟨w.heap.size, 0, none⟩) ss.length ss.length) ∧ OwnP w' w.heap.size (.slice (some ⟨w.heap.size, 0, none⟩) ss.length ss.length) ss ∧ Below w.heap.size w w' := by
  rcases hv with ⟨ao, cap, rfl, rfl⟩ | ⟨b, off, cap, rfl, hpos, hc⟩
  · obtain ⟨i0, hi, hz0, hz1, hz2⟩ := info_parts Tryd.info9
    go_enter Tryd.func39, Tryd.ntmps39
    go_wp2_with (at_make; refine wpList_make_full _ rfl _ _ 22 rfl w.heap.size 9 i0 (.string ⟨#[]⟩) 1 Tryd.underlying22 hi hz0 hz1 _ _ _ _ 0 rfl rfl rfl rfl ?c1 ?c2 (Nat.le_refl _) ?_)
    case c1 => omega
    case c2 => unfold maxLen; omega
    intro w1 hown hg
    rw [toList_madeCells_one] at hown
    have hbel : Below w.heap.size w w1 := (Below.refl _ _).grown hg (Nat.le_refl _) (fun k h => by cases h)
    have HB := Lib.hid hbel
    have HO := Lib.hid hown
    clear hg hown hbel
    go_wp2
    refine wp_loop_rounds 1 ?_; rw [rounds_succ]
    go_wp2
    go_ret
    exact ⟨rfl, HO.out, HB.out⟩
  · exact toStringS_any b off ss.length cap ss w rfl hN hc

theorem toPicture_any (v : Value) (ss : List ByteArray) (w : World) (hN : ss.length ≤ 1048576) (hv : Sl w v ss) :
    Calls Tryd.prog 12 #[.agg #[v]] w (TookPic w ss) := by
  go_enter Tryd.func12, Tryd.ntmps12
  go_wp2_with fail
  refine (toStringS_sl v ss _ hN (hv.below (Joins.below_alloc3 w _ _ _))).mono ?_
  rintro e w1 ⟨rfl, hown, hb⟩
  simp at hown
  obtain ⟨hc, hf⟩ := bcell hb
  have hz : w.heap.size + 2 < w1.heap.size := by have := hb.size; simp at this; omega
  have hz1 : w.heap.size + 1 < w1.heap.size := by omega
  go_wp2_with fail
  refine bodyPost_ret (v := .agg #[.slice (some ⟨w.heap.size + 1 + 1 + 1, 0, none⟩) ss.length ss.length]) (by simp [results, Tryd.results12, go_sem, hc]) rfl ⟨_, _, rfl, ?_, ?_⟩
  · have := ownsRow_setCell_below (ownsRow_setCell_below hown (a := ⟨w.heap.size + 1 + 1, 0, none⟩) (by simp) (.slice (some ⟨w.heap.size + 1 + 1 + 1, 0, none⟩) ss.length ss.length)) (a := ⟨w.heap.size + 1, 0, none⟩) (by simp) (.slice (some ⟨w.heap.size + 1 + 1 + 1, 0, none⟩) ss.length ss.length)
    exact Joins.ownsRow_le this (by omega)
  · exact (((Joins.below_alloc3 w _ _ _).trans (hb.mono (by simp; omega))).setCell (by simp; omega) _).setCell (by simp) _
end Go.Proofs.YtnmnlbgialolhaaDoor

/- Contracts of single functions, and plain lemmas, on which the exact laws of this seat rest; each holds under the conditions that it states. -/
namespace Go.Proofs.YtnmnlbgialolhaaDoor
set_option linter.unusedVariables false
set_option linter.unusedSimpArgs false
open Go.RowKit

/-! ### rows of numbers as arguments: sizes and copies -/
theorem szInt64S_N (ao : Option Addr) (n cap : Nat) (left : Int) (w : World) (h0 : 0 ≤ left) (h1 : left ≤ 1048576) (hn : n ≤ maxLen) :
    Calls Tryd.prog 101 #[.slice ao n cap, .int .i64 left] w (fun e w' => ∃ r : Int, e = .returned (.int .i64 r) ∧ r ≤ left ∧ -1 ≤ r ∧ (0 ≤ r → (n : Int) + r = left) ∧ w = w') := by
  unfold maxLen at hn
  have k1 : IntKind.i64.wrap (left - (n : Int)) = left - (n : Int) := IntWalk.i64_in _ (by omega)
  by_cases h : left - (n : Int) < 0
  · go_enter Tryd.func101, Tryd.ntmps101
    go_wp2
    go_ret
    exact ⟨-1, rfl, by omega, by omega, fun h => by omega, rfl⟩
  · go_enter Tryd.func101, Tryd.ntmps101
    go_wp2
    go_ret
    exact ⟨left - n, rfl, by omega, by omega, fun h => by omega, rfl⟩

/-- what the size of rows of rows says -/
def SomeSzR (left : Int) (n : Nat) (f : Nat → List Int) (w : World) (e : Ending) (w' : World) : Prop :=
  ∃ r : Int, e = .returned (.int .i64 r) ∧ r ≤ left ∧ -1 ≤ r ∧ (0 ≤ r → (n : Int) + (offR f n : Nat) ≤ left) ∧ Below w.heap.size w w'

set_option maxHeartbeats 2000000 in
theorem szInt64SS_R (v : Value) (n : Nat) (f : Nat → List Int) (left : Int) (w : World) (h0 : 0 ≤ left) (h1 : left ≤ 1048576) (hN : n ≤ maxLen) (hf : ∀ i, i < n → (f i).length ≤ maxLen) (hv : SlR w v n f) :
    Calls Tryd.prog 58 #[v, .int .i64 left] w (SomeSzR left n f w) := by
  unfold maxLen at hN
  have k1 : IntKind.i64.wrap (left - (n : Int)) = left - (n : Int) := IntWalk.i64_in _ (by omega)
  by_cases h : left - (n : Int) < 0
  · obtain ⟨ao, cap, rfl⟩ := hv.form
    clear hv hf
    go_enter Tryd.func58, Tryd.ntmps58
    go_wp2
    go_ret
    exact ⟨-1, rfl, by omega, by omega, fun h => by omega, Below.refl _ _⟩
  · rcases hv with ⟨ao, cap, rfl, rfl⟩ | ⟨b, off, cap, us, rfl, hpos, hb, hc⟩
    · clear hf
      go_enter Tryd.func58, Tryd.ntmps58
      go_wp2
      refine wp_loop_rounds 1 ?_; rw [rounds_succ]
      go_wp2
      go_ret
      exact ⟨left, by simp, by omega, by omega, fun _ => by simp [offR]; omega, Below.refl _ _⟩
    · have HC := Lib.hid hc
      have HF := Lib.hid hf
      have HO : Hid (∀ k, offR f (k + 1) = offR f k + (f k).length) := fun _ => rfl
      clear hc hf
      have hl1 : 0 ≤ left - (n : Int) := by omega
      have hl2 : left - (n : Int) ≤ left := by omega
      go_enter Tryd.func58, Tryd.ntmps58
      go_wp2
      go_loopw [1, 5] (fun lv i wr => ∃ (l : Int) (k : Nat), k ≤ n ∧ 0 ≤ l ∧ l ≤ left ∧ lv = .int .i64 l ∧ i = .int .i64 k ∧ Hid (((offR f k : Nat) : Int) + l = left - (n : Int)) ∧ w = wr) (fun _ i _ => n - (intOf i).toNat)
      case atStart => exact ⟨left - (n : Int), 0, Nat.zero_le _, hl1, hl2, rfl, rfl, by show ((0 : Nat) : Int) + (left - (n : Int)) = left - (n : Int); omega, rfl⟩
      case round =>
        obtain ⟨l, k, hk, hla, hlb, rfl, rfl, HS, rfl⟩ := hrel
        by_cases hlt : k < n
        · have hx := (HC.out k hlt).1
          obtain ⟨ax, cx, ex⟩ := (HC.out k hlt).2.form
          have hfk := HF.out k hlt
          have HOk := Lib.hid (HO.out k)
          obtain ⟨m, hm⟩ : ∃ m, (f k).length = m := ⟨_, rfl⟩
          rw [hm] at ex hfk HOk
          rw [ex] at hx
          have C := Lib.hid (fun W => szInt64S_N ax m cx l W hla (by omega) hfk)
          have k0 : (0 : Int) ≤ (k : Int) := by omega
          have k1' : (k : Int) < (n : Int) := by omega
          clear hm hfk ex
          go_wp2_with fail
          refine (C.out _).mono ?_
          rintro e w2 ⟨r, rfl, hr1, hr2, hr3, rfl⟩
          by_cases hr : r < 0
          · clear hr3
            go_wp2_with fail
            go_ret
            exact ⟨-1, rfl, by omega, by omega, fun h => by omega, Below.refl _ _⟩
          · have hr3 := Lib.hid (hr3 (by omega))
            go_wp2_with fail
            go_roundw
            case rel => exact ⟨r, k + 1, by omega, by omega, by omega, rfl, by go_num, by show ((offR f (k + 1) : Nat) : Int) + r = left - (n : Int); rw [HOk.out]; have := hr3.out; have := HS.out; omega, (by trivial)⟩
            case measure => simp [intOf]; omega
        · obtain rfl : k = n := by omega
          go_wp2_with fail
          go_ret
          exact ⟨l, rfl, by omega, by omega, fun _ => by have := HS.out; omega, Below.refl _ _⟩

/-! ### copies -/
theorem toInt64S_N (v : Value) (ns : List Int) (w : World) (hN : ns.length ≤ 1048576) (hv : SlN w v ns) :
    Calls Tryd.prog 103 #[v] w (fun e w' => ∃ g cap, e = .returned (.slice (some ⟨g, 0, none⟩) ns.length cap) ∧ OwnN w' w.heap.size (.slice (some ⟨g, 0, none⟩) ns.length cap) ns ∧ Below w.heap.size w w') := by
  obtain ⟨i0, hi, hz0, hz1, hz2⟩ := info_parts infoN64
  rcases hv with ⟨ao, cap, rfl, rfl⟩ | ⟨b, off, cap, rfl, hpos, hb, hc⟩
  · go_enter Tryd.func103, Tryd.ntmps103
    go_wp2_with (at_make; refine wpList_make_full _ rfl _ _ 88 rfl w.heap.size 2 i0 (.int .i64 0) 1 Tryd.underlying88 hi hz0 hz1 _ _ _ _ 0 rfl rfl rfl rfl ?c1 ?c2 (Nat.le_refl _) ?_)
    case c1 => omega
    case c2 => unfold maxLen; omega
    intro w1 hown hg
    have hbel : Below w.heap.size w w1 := (Below.refl _ _).grown hg (Nat.le_refl _) (fun k h => by cases h)
    have HB := Lib.hid hbel
    have HO : Hid (OwnN w1 w.heap.size (.slice (some ⟨w.heap.size, 0, none⟩) 0 0) []) := by
      rw [toList_madeCells_one] at hown
      exact hown
    clear hg hown hbel
    go_wp2
    refine wp_loop_rounds 1 ?_; rw [rounds_succ]
    go_wp2
    go_ret
    exact ⟨_, _, rfl, HO.out, HB.out⟩
  · obtain ⟨n, hn⟩ : ∃ n, ns.length = n := ⟨_, rfl⟩
    rw [hn] at hN hc hpos ⊢
    have HC := Lib.hid hc
    have HNn := Lib.hid hn
    clear hc hn
    go_enter Tryd.func103, Tryd.ntmps103
    go_wp2_with (at_make; refine wpList_make_full _ rfl _ _ 88 rfl w.heap.size 2 i0 (.int .i64 0) 1 Tryd.underlying88 hi hz0 hz1 _ _ _ _ n rfl rfl rfl rfl ?c1 ?c2 (Nat.le_refl _) ?_)
    case c1 => rw [hz2]; omega
    case c2 => unfold maxLen; omega
    intro w1 hown hg
    rw [toList_madeCells_one] at hown
    have hbel : Below w.heap.size w w1 := (Below.refl _ _).grown hg (Nat.le_refl _) (fun k h => by cases h)
    clear hg
    go_wp2
    go_loopw [4] (fun i wr => ∃ k : Nat, k ≤ n ∧ i = .int .i64 k ∧ wr.ownsRow w.heap.size 2 1 (.slice (some ⟨w.heap.size, 0, none⟩) n n) n ((List.range k).map (fun i => Value.int .i64 (ns.getD i 0)) ++ List.replicate (n - k) (.int .i64 0)) ∧ Below w.heap.size w wr) (fun i _ => n - (intOf i).toNat)
    case atStart => exact ⟨0, Nat.zero_le _, rfl, by simpa using hown, hbel⟩
    case round =>
      clear hown hbel
      obtain ⟨k, hk, rfl, hown, hbel⟩ := hrel
      by_cases hlt : k < n
      · have hcell : wr.cell? ⟨b, off + k, none⟩ = some (.int .i64 (ns.getD k 0)) := (hbel.cell (p := ⟨b, off + k, none⟩) hb).trans (HC.out k (by omega))
        have hfz := hown.frozenAt k
        have hold := hown.cellAt k (by omega)
        rw [List.getElem?_append_right (by simp)] at hold
        simp only [List.length_map, List.length_range, Nat.sub_self] at hold
        rw [show n - k = (n - (k + 1)) + 1 from by omega, List.replicate_succ] at hold
        simp only [List.getElem?_cons_zero] at hold
        have hst := hown.stored k (.int .i64 (ns.getD k 0))
        rw [set_prefix (fun i => Value.int .i64 (ns.getD i 0)) _ n k hlt] at hst
        have HS := Lib.hid hst
        have HB := Lib.hid hbel
        obtain ⟨s, hs⟩ : ∃ s, ns.getD k 0 = s := ⟨_, rfl⟩
        rw [hs] at hcell HS
        clear hst hown hbel hs
        go_wp2
        go_roundw
        case rel => exact ⟨k + 1, by omega, by go_num, HS.out.1, HB.out.setCell (Nat.le_refl _) _⟩
        case measure => simp [intOf]; omega
      · obtain rfl : k = n := by omega
        have HO : Hid (OwnN wr w.heap.size (.slice (some ⟨w.heap.size, 0, none⟩) k k) ns) := by
          show World.ownsRow _ _ _ _ _ _ _
          rw [HNn.out]
          have e : (List.range k).map (fun i => Value.int .i64 (ns.getD i 0)) ++ List.replicate (k - k) (Value.int .i64 0) = numsV ns := by
            rw [Nat.sub_self, List.replicate_zero, List.append_nil]
            apply List.ext_getElem?
            intro i
            by_cases h : i < k
            · have h' : i < ns.length := by rw [HNn.out]; exact h
              simp [numsV, h, h', List.getD]
            · have h' : ns.length ≤ i := by rw [HNn.out]; omega
              simp [numsV, h, h']
          rw [e] at hown
          exact hown
        have HB := Lib.hid hbel
        clear hown hbel
        go_wp2
        go_ret
        exact ⟨_, _, rfl, HO.out, HB.out⟩

/-- a new row is put into the rows -/
theorem OwnR.put {w w1 : World} {lo g n cap j : Nat} {us : Nat → Value} {f : Nat → List Int} {u : Value} {x : List Int} (h : OwnR w lo w.heap.size (.slice (some ⟨g, 0, none⟩) n cap) us n f) (hlo : lo ≤ w.heap.size) (hj : j < n) (hb : Below w.heap.size w w1) (ho : OwnN w1 w.heap.size u x) :
    OwnR (w1.setCell ⟨g, j, none⟩ u) lo w1.heap.size (.slice (some ⟨g, 0, none⟩) n cap) (fun i => if i = j then u else us i) n (fun i => if i = j then x else f i) := by
  have hr := own_below h.row hb
  have hs := hb.size
  refine ⟨?_, fun i hi => ?_, fun i hi k hk => ?_, fun k hk => Nat.lt_of_lt_of_le (h.top k hk) hs, fun a c ha hc hac k hk hk2 => ?_⟩
  · have := hr.stored j u
    have e : ((List.range n).map us).set j u = (List.range n).map (fun i => if i = j then u else us i) := by
      apply List.ext_getElem?
      intro i
      rw [List.getElem?_set]
      by_cases e : j = i
      · subst e
        simp [hj]
      · rw [if_neg e]
        by_cases hi : i < n
        · simp [hi, show ¬ i = j from fun h => e h.symm]
        · simp [hi]
    rw [e] at this
    exact this.1
  · by_cases e : i = j
    · simp only [if_pos e]
      have h1 := ownsRow_setCell_other ho (a := ⟨g, j, none⟩) (fun e2 => own_two hr ho (by decide) g rfl e2) u
      exact OwnN.mono h1 hlo
    · simp only [if_neg e]
      have h1 : OwnN w1 lo (us i) (f i) := own_below (h.each i hi) hb
      exact ownsRow_setCell_other h1 (a := ⟨g, j, none⟩) (fun e2 => own_two hr h1 (by decide) g rfl e2) u
  · by_cases e : i = j
    · simp only [if_pos e] at hk
      exact (ho.lt k hk).2
    · simp only [if_neg e] at hk
      exact Nat.lt_of_lt_of_le (h.up i hi k hk) hs
  · by_cases ea : a = j
    · have ec : ¬ c = j := fun e => hac (ea.trans e.symm)
      simp only [if_pos ea] at hk
      simp only [if_neg ec] at hk2
      have := (ho.lt k hk).1
      have := h.up c hc k hk2
      omega
    · simp only [if_neg ea] at hk
      by_cases ec : c = j
      · simp only [if_pos ec] at hk2
        have := (ho.lt k hk2).1
        have := h.up a ha k hk
        omega
      · simp only [if_neg ec] at hk2
        exact h.apart a c ha hc hac k hk hk2

def TookR (w : World) (n : Nat) (f : Nat → List Int) (e : Ending) (w' : World) : Prop := ∃ g cap, e = .returned (.slice (some ⟨g, 0, none⟩) n cap) ∧ (∃ us, OwnR w' w.heap.size w'.heap.size (.slice (some ⟨g, 0, none⟩) n cap) us n f) ∧ Below w.heap.size w w'

theorem rep_nil (n : Nat) : List.replicate n (Value.slice none 0 0) = (List.range n).map (fun _ => Value.slice none 0 0) := by
  apply List.ext_getElem?
  intro i
  by_cases h : i < n
  · simp [h]
  · simp [h]

set_option maxHeartbeats 2000000 in
theorem toInt64SS_R (v : Value) (n : Nat) (f : Nat → List Int) (w : World) (hN : n ≤ 1048576) (hf : ∀ i, i < n → (f i).length ≤ 1048576) (hv : SlR w v n f) :
    Calls Tryd.prog 64 #[v] w (TookR w n f) := by
  obtain ⟨i0, hi, hz0, hz1, hz2⟩ := info_parts infoSl
  rcases hv with ⟨ao, cap, rfl, rfl⟩ | ⟨b, off, cap, vs, rfl, hpos, hb, hc⟩
  · clear hf
    go_enter Tryd.func64, Tryd.ntmps64
    go_wp2_with (at_make; refine wpList_make_full _ rfl _ _ 33 rfl w.heap.size 88 i0 (.slice none 0 0) 1 Tryd.underlying33 hi hz0 hz1 _ _ _ _ 0 rfl rfl rfl rfl ?c1 ?c2 (Nat.le_refl _) ?_)
    case c1 => omega
    case c2 => unfold maxLen; omega
    intro w1 hown hg
    have hbel : Below w.heap.size w w1 := (Below.refl _ _).grown hg (Nat.le_refl _) (fun k h => by cases h)
    have HB := Lib.hid hbel
    have HO : Hid (OwnR w1 w.heap.size w1.heap.size (.slice (some ⟨w.heap.size, 0, none⟩) 0 0) (fun _ => .slice none 0 0) 0 f) := by
      rw [toList_madeCells_one] at hown
      exact ⟨hown, fun i h => absurd h (Nat.not_lt_zero i), fun i h => absurd h (Nat.not_lt_zero i), fun k hk => (hown.lt k hk).2, fun i j h => absurd h (Nat.not_lt_zero i)⟩
    clear hg hown hbel
    go_wp2
    refine wp_loop_rounds 1 ?_; rw [rounds_succ]
    go_wp2
    go_ret
    exact ⟨_, _, rfl, ⟨_, HO.out⟩, HB.out⟩
  · have HC := Lib.hid hc
    have HF := Lib.hid hf
    clear hc hf
    go_enter Tryd.func64, Tryd.ntmps64
    go_wp2_with (at_make; refine wpList_make_full _ rfl _ _ 33 rfl w.heap.size 88 i0 (.slice none 0 0) 1 Tryd.underlying33 hi hz0 hz1 _ _ _ _ n rfl rfl rfl rfl ?c1 ?c2 (Nat.le_refl _) ?_)
    case c1 => rw [hz2]; omega
    case c2 => unfold maxLen; omega
    intro w1 hown hg
    rw [toList_madeCells_one, rep_nil] at hown
    have hbel : Below w.heap.size w w1 := (Below.refl _ _).grown hg (Nat.le_refl _) (fun k h => by cases h)
    have HO : Hid (OwnR w1 w.heap.size w1.heap.size (.slice (some ⟨w.heap.size, 0, none⟩) n n) (fun _ => .slice none 0 0) n (fun i => if i < 0 then f i else [])) :=
      ⟨hown, fun i h => OwnN.nil _ _, fun i h k e => by simp [Value.ownBlock] at e, fun k hk => (hown.lt k hk).2, fun i j h _ _ k e => by simp [Value.ownBlock] at e⟩
    have HB := Lib.hid hbel
    clear hg hown hbel
    go_wp2
    go_loopw [4] (fun i wr => ∃ (k : Nat) (us : Nat → Value), k ≤ n ∧ i = .int .i64 k ∧ Hid (∀ i, k ≤ i → us i = .slice none 0 0) ∧ Hid (OwnR wr w.heap.size wr.heap.size (.slice (some ⟨w.heap.size, 0, none⟩) n n) us n (fun i => if i < k then f i else [])) ∧ Hid (Below w.heap.size w wr)) (fun i _ => n - (intOf i).toNat)
    case atStart => exact ⟨0, _, Nat.zero_le _, rfl, fun _ _ => rfl, HO, HB⟩
    case round =>
      clear HO HB
      obtain ⟨k, us, hk, rfl, HU, HO, HB⟩ := hrel
      by_cases hlt : k < n
      · have hcell := cell_kept HB.out (HC.out k hlt).1
        have hsl := (HC.out k hlt).2.below HB.out
        obtain ⟨ax, cx, ex⟩ := hsl.form
        have C := toInt64S_N (vs k) (f k) wr (HF.out k hlt) hsl
        obtain ⟨m, hm⟩ : ∃ m, (f k).length = m := ⟨_, rfl⟩
        rw [hm] at C ex
        rw [ex] at C hcell
        have C := Lib.hid C
        have k0 : (0 : Int) ≤ (k : Int) := by omega
        have k1 : (k : Int) < (n : Int) := by omega
        have lg := (HO.out.row.lt _ rfl).2
        have ls := HB.out.size
        clear hsl ex
        go_wp2_with fail
        refine C.out.mono ?_
        rintro e w2 ⟨g, cap2, rfl, hown, hb2⟩
        have hfz := (own_below HO.out.row hb2).frozenAt k
        have hold := (own_below HO.out.row hb2).cellAt k (by omega)
        have hold : w2.cell? ⟨w.heap.size, k, none⟩ = some (.slice none 0 0) := by
          rw [hold]
          have := HU.out k (Nat.le_refl _)
          simp [hlt, this]
        have HP := Lib.hid (OwnR.put HO.out ls hlt hb2 hown)
        have HB2 := Lib.hid (HB.out.trans (hb2.mono ls))
        have lg2 : w.heap.size < w2.heap.size := Nat.lt_of_lt_of_le lg hb2.size
        clear hown hb2 HB C hcell
        go_wp2
        go_roundw
        case rel =>
          refine ⟨k + 1, fun i => if i = k then .slice (some ⟨g, 0, none⟩) m cap2 else us i, by omega, by go_num, ?_, ?_, HB2.out.setCell (Nat.le_refl _) _⟩
          rotate_left
          · refine Lib.hid ((HP.out.mono (Nat.le_refl _) (by simp)).congr fun i hi => ?_)
            by_cases e : i = k
            · subst e
              simp
            · by_cases e2 : i < k
              · simp [e, e2, show i < k + 1 by omega]
              · simp [e, e2, show ¬ i < k + 1 by omega]
          · intro i hi
            simp [show ¬ i = k by omega, HU.out i (by omega)]
        case measure => simp [intOf]; omega
      · obtain rfl : k = n := by omega
        have HR := Lib.hid (HO.out.congr fun i hi => show (if i < k then f i else []) = f i from if_pos hi)
        clear HO
        go_wp2
        go_ret
        exact ⟨_, _, rfl, ⟨_, HR.out⟩, HB.out⟩
end Go.Proofs.YtnmnlbgialolhaaDoor
