/- Contracts of single functions, and plain lemmas, on which the exact laws of this seat rest; each holds under the conditions that it states. -/
import Derived.Test.YtnmnlbgialolhaaDoorPb
import Derived.Test.YtnmnlbgialolhaaDoorHd
namespace Go.Proofs.YtnmnlbgialolhaaDoor
set_option linter.unusedVariables false
open Go.RowKit

/-! ### what the walks of the laws of one shape share: what lies in a stretch of blocks is kept while another stretch is written -/
/-- all is kept but for the blocks from l on, below r -/
structure Far (l r : Nat) (W W' : World) : Prop where
  os : W'.os = W.os
  tape : W'.tape = W.tape
  output : W'.output = W.output
  size : W.heap.size ≤ W'.heap.size
  block : ∀ k, k < W.heap.size → (k < l ∨ r ≤ k) → W'.heap[k]? = W.heap[k]?

theorem Far.trans {l r : Nat} {a b c : World} (h : Far l r a b) (k : Far l r b c) : Far l r a c :=
  ⟨k.os.trans h.os, k.tape.trans h.tape, k.output.trans h.output, Nat.le_trans h.size k.size, fun i hi hd => (k.block i (Nat.lt_of_lt_of_le hi h.size) hd).trans (h.block i hi hd)⟩

theorem Far.ofB {W W' : World} (h : Below W.heap.size W W') : Far 0 0 W W' := ⟨h.os, h.tape, h.output, h.size, fun k hk _ => h.block k hk⟩
theorem Far.ofG {W W' : World} {l r : Nat} {row : Option Nat} (hg : W.grownBy W' row) (h : ∀ j, row = some j → l ≤ j ∧ j < r) : Far l r W W' :=
  ⟨hg.os, hg.tape, hg.output, hg.size, fun k hk hd => hg.block k hk (fun e => by have := h k e.symm; omega)⟩
theorem Far.bel {W W' w : World} {l r n : Nat} (h : Far l r W W') (hb : Below n w W) (hd : n ≤ l ∨ r = 0) (hs : n ≤ w.heap.size) : Below n w W' :=
  ⟨h.os.trans hb.os, h.tape.trans hb.tape, h.output.trans hb.output, Nat.le_trans hb.size h.size, fun k hk => (h.block k (Nat.lt_of_lt_of_le hk (Nat.le_trans hs hb.size)) (by omega)).trans (hb.block k hk)⟩
theorem Far.cells {W W' : World} {l r b : Nat} {x : Obj} (h : Far l r W W') (hc : W.heap[b]? = some x) (hd : b < l ∨ r ≤ b) : W'.heap[b]? = some x :=
  (h.block b (Array.getElem?_eq_some_iff.1 hc).1 hd).trans hc

/-- it rests on the blocks from lo on, below hi, alone -/
def Liv (lo hi : Nat) (O : World → Prop) : Prop := ∀ l r W W', Far l r W W' → (hi ≤ l ∨ r ≤ lo) → O W → O W'

/-- a row of the call's own in a stretch of blocks -/
structure Row (e : TypeId) (s lo hi : Nat) (v : Value) (n : Nat) (xs : List Value) (W : World) : Prop where
  o : W.ownsRow lo e s v n xs
  lt : ∀ j, v.ownBlock = some j → j < hi
theorem Row.inb {e : TypeId} {s lo hi n : Nat} {v : Value} {xs : List Value} {W : World} (h : Row e s lo hi v n xs W) : ∀ j, v.ownBlock = some j → lo ≤ j ∧ j < hi :=
  fun j hj => ⟨(h.o.lt j hj).1, h.lt j hj⟩
theorem Row.liv {e : TypeId} {s lo hi n : Nat} {v : Value} {xs : List Value} : Liv lo hi (Row e s lo hi v n xs) := by
  intro l r W W' hf hd h
  refine ⟨⟨h.o.1, ?_⟩, h.lt⟩
  rcases h.o.2 with h2 | ⟨g, cap, cur, hv, hb, hg, rest⟩
  · exact Or.inl h2
  · subst hv
    have h1 := h.inb g rfl
    exact Or.inr ⟨g, cap, cur, rfl, hb, hf.cells hg (by omega), rest⟩

/-- a value of the call's own in a variable: its memory from lo on, below hi; all of it from L on, below H -/
structure VarO (O : World → Prop) (t : TypeId) (b : Nat) (v : Value) (lo hi L H : Nat) (W : World) : Prop where
  c : W.heap[b]? = some (.cells #[v] t (0, 0))
  o : O W
  liv : Liv lo hi O
  hb : b < lo ∨ hi ≤ b
  hl : L ≤ lo
  hh : hi ≤ H
  hb1 : L ≤ b
  hb2 : b < H
section
variable {O O' : World → Prop} {t : TypeId} {b lo hi L H l r : Nat} {v : Value} {W W' : World}
theorem VarO.far (h : VarO O t b v lo hi L H W) (hf : Far l r W W') (hd : H ≤ l ∨ r ≤ L) : VarO O t b v lo hi L H W' :=
  ⟨hf.cells h.c (by have := h.hb1; have := h.hb2; omega), h.liv l r W W' hf (by have := h.hl; have := h.hh; omega) h.o, h.liv, h.hb, h.hl, h.hh, h.hb1, h.hb2⟩
theorem VarO.far0 (h : VarO O t b v lo hi L H W) (hf : Far 0 0 W W') : VarO O t b v lo hi L H W' := h.far hf (Or.inr (Nat.zero_le _))
theorem VarO.val (h : VarO O t b v lo hi L H W) : W.cell? ⟨b, 0, none⟩ = some v := cell_of_one h.c
theorem VarO.marked (h : VarO O t b v lo hi L H W) (hf : Far lo hi W W') (ho : O' W') (hl : Liv lo hi O') : VarO O' t b v lo hi L H W' :=
  ⟨hf.cells h.c (by have := h.hb; omega), ho, hl, h.hb, h.hl, h.hh, h.hb1, h.hb2⟩
/-- the cell of a variable that is just made -/
theorem VarO.new (ho : O W) (hl : Liv lo hi O) (hhi : hi ≤ W.heap.size) (hf : Far 0 0 W (W.alloc (.cells #[v] t)))  (hL : L ≤ lo) (hL2 : L ≤ W.heap.size) : VarO O t W.heap.size v lo hi L (W.heap.size + 1) (W.alloc (.cells #[v] t)) :=
  ⟨heap_alloc_last W _, hl 0 0 W _ hf (Or.inr (Nat.zero_le _)) ho, hl, Or.inr hhi, hL, by omega, hL2, by omega⟩
end
theorem far_alloc (W : World) (o : Obj) : Far 0 0 W (W.alloc o) := Far.ofB (Joins.below_alloc1 W o)
/-- a store into one's own variable -/
theorem far_set (W : World) (b : Nat) (v : Value) : Far b (b + 1) W (W.setCell ⟨b, 0, none⟩ v) :=
  ⟨rfl, rfl, rfl, by simp [World.setCell], fun k hk hd => Below.heap_setCell W ⟨b, 0, none⟩ v k (by show k ≠ b; omega)⟩
theorem VarO.set {O : World → Prop} {t : TypeId} {b lo hi L H : Nat} {v x : Value} {W : World} (hc : W.heap[b]? = some (.cells #[x] t (0, 0))) (ho : O W) (hl : Liv lo hi O) (hb : b < lo ∨ hi ≤ b) (hL : L ≤ lo) (hH : hi ≤ H) (h1 : L ≤ b) (h2 : b < H) :
    VarO O t b v lo hi L H (W.setCell ⟨b, 0, none⟩ v) :=
  ⟨one_setCell hc, hl b (b + 1) W _ (far_set W b v) (by omega) ho, hl, hb, hL, hH, h1, h2⟩

/-! ### the kinds -/
/-- a picture's rows -/
abbrev PicO (lo hi : Nat) (v : Value) (ss : List ByteArray) : World → Prop := Row 9 1 lo hi v ss.length (ss.map Value.string)
theorem PicO.of {W : World} {lo hi : Nat} {v : Value} {ss : List ByteArray} (h : OwnP W lo v ss) (hh : W.heap.size ≤ hi) : PicO lo hi v ss W :=
  ⟨h, fun j hj => Nat.lt_of_lt_of_le (h.lt j hj).2 hh⟩
theorem PicO.sl {W : World} {lo hi : Nat} {v : Value} {ss : List ByteArray} (h : PicO lo hi v ss W) : Sl W v ss := OwnP.sl h.o
theorem mark_pic (v : Value) (ss : List ByteArray) (lo hi k : Nat) (W : World) (h1 : 1 ≤ k) (h2 : k + ss.length ≤ 9000000) (h : PicO lo hi v ss W) :
    Calls Tryd.prog 15 #[.agg #[v], .int .i64 k] W (fun e w' => e = .returned (.int .i64 ((k + ss.length : Nat) : Int)) ∧ PicO lo hi v (marks k ss.length) w' ∧ Far lo hi W w') :=
  (markPicture_any v ss lo k W h1 h2 h.o).mono fun e w' ⟨e1, ho, hg⟩ => ⟨e1, ⟨ho, h.lt⟩, Far.ofG hg h.inb⟩
end Go.Proofs.YtnmnlbgialolhaaDoor
