/- Contracts of single functions, and plain lemmas, on which the exact laws of this seat rest; each holds under the conditions that it states. -/
import Derived.Test.YtabkkpifkkgpeaaDoorLt
import Derived.Test.YtabkkpifkkgpeaaDoorMw
import Derived.Test.YtabkkpifkkgpeaaDoorIs
import Derived.Test.YtabkkpifkkgpeaaDoorPb
import Derived.Test.YtabkkpifkkgpeaaDoorBY
import Derived.Deep.DeepCutAuto
import Derived.Laws.BitsAllLaws
namespace Go.Proofs.YtabkkpifkkgpeaaDoor
set_option linter.unusedVariables false
open Go.RowKit

/-! ### what the walks of the laws of one shape share: what lies in a stretch of blocks is kept while another stretch is written -/
/-- all is kept but for the blocks from l on, below r -/
structure Far (l r : Nat) (W W' : World) : Prop where
  os : W'.os = W.os
  tape : W'.tape = W.tape
  output : W'.output = W.output
  size : W.heap.size ≤ W'.heap.size
  block : ∀ k, k < W.heap.size → (k < l ∨ r ≤ k) → W'.heap[k]? = W.heap[k]?

theorem Far.ofB {W W' : World} (h : Below W.heap.size W W') : Far 0 0 W W' := ⟨h.os, h.tape, h.output, h.size, fun k hk _ => h.block k hk⟩
theorem Far.ofG {W W' : World} {l r : Nat} {row : Option Nat} (hg : W.grownBy W' row) (h : ∀ j, row = some j → l ≤ j ∧ j < r) : Far l r W W' :=
  ⟨hg.os, hg.tape, hg.output, hg.size, fun k hk hd => hg.block k hk (fun e => by have := h k e.symm; omega)⟩
theorem Far.bel {W W' w : World} {l r n : Nat} (h : Far l r W W') (hb : Below n w W) (hd : n ≤ l ∨ r = 0) (hs : n ≤ w.heap.size) : Below n w W' :=
  ⟨h.os.trans hb.os, h.tape.trans hb.tape, h.output.trans hb.output, Nat.le_trans hb.size h.size, fun k hk => (h.block k (Nat.lt_of_lt_of_le hk (Nat.le_trans hs hb.size)) (by omega)).trans (hb.block k hk)⟩
theorem Far.cells {W W' : World} {l r b : Nat} {x : Obj} (h : Far l r W W') (hc : W.heap[b]? = some x) (hd : b < l ∨ r ≤ b) : W'.heap[b]? = some x :=
  (h.block b (Array.getElem?_eq_some_iff.1 hc).1 hd).trans hc

/-- it rests on the blocks from lo on, below hi, alone -/
def Liv (lo hi : Nat) (O : World → Prop) : Prop := ∀ l r W W', Far l r W W' → (hi ≤ l ∨ r ≤ lo) → O W → O W'

/-- a row of the call's own in a stretch of blocks -/
structure Row (e : TypeId) (s lo hi : Nat) (v : Value) (n : Nat) (xs : List Value) (W : World) : Prop where
  o : W.ownsRow lo e s v n xs
  lt : ∀ j, v.ownBlock = some j → j < hi
theorem Row.inb {e : TypeId} {s lo hi n : Nat} {v : Value} {xs : List Value} {W : World} (h : Row e s lo hi v n xs W) : ∀ j, v.ownBlock = some j → lo ≤ j ∧ j < hi :=
  fun j hj => ⟨(h.o.lt j hj).1, h.lt j hj⟩
theorem Row.liv {e : TypeId} {s lo hi n : Nat} {v : Value} {xs : List Value} : Liv lo hi (Row e s lo hi v n xs) := by
  intro l r W W' hf hd h
  refine ⟨⟨h.o.1, ?_⟩, h.lt⟩
  rcases h.o.2 with h2 | ⟨g, cap, cur, hv, hb, hg, rest⟩
  · exact Or.inl h2
  · subst hv
    have h1 := h.inb g rfl
    exact Or.inr ⟨g, cap, cur, rfl, hb, hf.cells hg (by omega), rest⟩

/-- a value of the call's own in a variable: its memory from lo on, below hi; all of it from L on, below H -/
structure VarO (O : World → Prop) (t : TypeId) (b : Nat) (v : Value) (lo hi L H : Nat) (W : World) : Prop where
  c : W.heap[b]? = some (.cells #[v] t (0, 0))
  o : O W
  liv : Liv lo hi O
  hb : b < lo ∨ hi ≤ b
  hl : L ≤ lo
  hh : hi ≤ H
  hb1 : L ≤ b
  hb2 : b < H
section
variable {O O' : World → Prop} {t : TypeId} {b lo hi L H l r : Nat} {v : Value} {W W' : World}
theorem VarO.far (h : VarO O t b v lo hi L H W) (hf : Far l r W W') (hd : H ≤ l ∨ r ≤ L) : VarO O t b v lo hi L H W' :=
  ⟨hf.cells h.c (by have := h.hb1; have := h.hb2; omega), h.liv l r W W' hf (by have := h.hl; have := h.hh; omega) h.o, h.liv, h.hb, h.hl, h.hh, h.hb1, h.hb2⟩
theorem VarO.far0 (h : VarO O t b v lo hi L H W) (hf : Far 0 0 W W') : VarO O t b v lo hi L H W' := h.far hf (Or.inr (Nat.zero_le _))
theorem VarO.val (h : VarO O t b v lo hi L H W) : W.cell? ⟨b, 0, none⟩ = some v := cell_of_one h.c
theorem VarO.marked (h : VarO O t b v lo hi L H W) (hf : Far lo hi W W') (ho : O' W') (hl : Liv lo hi O') : VarO O' t b v lo hi L H W' :=
  ⟨hf.cells h.c (by have := h.hb; omega), ho, hl, h.hb, h.hl, h.hh, h.hb1, h.hb2⟩
/-- the cell of a variable that is just made -/
theorem VarO.new (ho : O W) (hl : Liv lo hi O) (hhi : hi ≤ W.heap.size) (hf : Far 0 0 W (W.alloc (.cells #[v] t)))  (hL : L ≤ lo) (hL2 : L ≤ W.heap.size) : VarO O t W.heap.size v lo hi L (W.heap.size + 1) (W.alloc (.cells #[v] t)) :=
  ⟨heap_alloc_last W _, hl 0 0 W _ hf (Or.inr (Nat.zero_le _)) ho, hl, Or.inr hhi, hL, by omega, hL2, by omega⟩
end
theorem far_alloc (W : World) (o : Obj) : Far 0 0 W (W.alloc o) := Far.ofB (Joins.below_alloc1 W o)
/-- a store into one's own variable -/
theorem far_set (W : World) (b : Nat) (v : Value) : Far b (b + 1) W (W.setCell ⟨b, 0, none⟩ v) :=
  ⟨rfl, rfl, rfl, by simp [World.setCell], fun k hk hd => Below.heap_setCell W ⟨b, 0, none⟩ v k (by show k ≠ b; omega)⟩
theorem VarO.set {O : World → Prop} {t : TypeId} {b lo hi L H : Nat} {v x : Value} {W : World} (hc : W.heap[b]? = some (.cells #[x] t (0, 0))) (ho : O W) (hl : Liv lo hi O) (hb : b < lo ∨ hi ≤ b) (hL : L ≤ lo) (hH : hi ≤ H) (h1 : L ≤ b) (h2 : b < H) :
    VarO O t b v lo hi L H (W.setCell ⟨b, 0, none⟩ v) :=
  ⟨one_setCell hc, hl b (b + 1) W _ (far_set W b v) (by omega) ho, hl, hb, hL, hH, h1, h2⟩

/-! ### the kinds -/
/-- a picture's rows -/
abbrev PicO (lo hi : Nat) (v : Value) (ss : List ByteArray) : World → Prop := Row 9 1 lo hi v ss.length (ss.map Value.string)
theorem PicO.of {W : World} {lo hi : Nat} {v : Value} {ss : List ByteArray} (h : OwnP W lo v ss) (hh : W.heap.size ≤ hi) : PicO lo hi v ss W :=
  ⟨h, fun j hj => Nat.lt_of_lt_of_le (h.lt j hj).2 hh⟩
theorem PicO.sl {W : World} {lo hi : Nat} {v : Value} {ss : List ByteArray} (h : PicO lo hi v ss W) : Sl W v ss := OwnP.sl h.o
theorem mark_pic (v : Value) (ss : List ByteArray) (lo hi k : Nat) (W : World) (h1 : 1 ≤ k) (h2 : k + ss.length ≤ 9000000) (h : PicO lo hi v ss W) :
    Calls Tryd.prog 44 #[.agg #[v], .int .i64 k] W (fun e w' => e = .returned (.int .i64 ((k + ss.length : Nat) : Int)) ∧ PicO lo hi v (marks k ss.length) w' ∧ Far lo hi W w') :=
  (markPicture_any v ss lo k W h1 h2 h.o).mono fun e w' ⟨e1, ho, hg⟩ => ⟨e1, ⟨ho, h.lt⟩, Far.ofG hg h.inb⟩
end Go.Proofs.YtabkkpifkkgpeaaDoor

/- Contracts of single functions, and plain lemmas, on which the exact laws of this seat rest; each holds under the conditions that it states. -/
namespace Go.Proofs.YtabkkpifkkgpeaaDoor
set_option linter.unusedVariables false
set_option linter.unusedSimpArgs false
open Go.RowKit
attribute [local go_sem] Oper.semAt_some

/-! ### the source of choices -/
def SrcAt (W : World) (p : Nat) (v : Value) (m : Nat) : Prop := ∃ (a : Nat) (sd : Int), a ≤ m ∧ 0 ≤ sd ∧ sd < 18446744073709551616 ∧ W.heap[p]? = some (.cells #[v, .int .i64 (a : Int), .int .u64 sd] 155 (0, 0))

theorem SrcAt.drew {W : World} {p : Nat} {v : Value} {m : Nat} (h : SrcAt W p v m) : SrcAt W.drew p v m := h
theorem Far.drew {l r : Nat} {W W' : World} (h : Far l r W W') : Far l r W W'.drew := ⟨h.os, h.tape, h.output, h.size, h.block⟩

set_option maxHeartbeats 2000000 in
set_option maxRecDepth 100000 in
theorem next_any (p : Nat) (v : Value) (ns : List Nat) (m : Nat) (w : World) (hp : SrcAt w p v m) (hv : SlY w v ns) (hby : ∀ i, ns.getD i 0 < 256) (hN : ns.length ≤ maxLen) (hm : m ≤ 1000000) :
    Calls Tryd.prog 132 #[.pointer (some ⟨p, 0, none⟩)] w (fun e w' => (∃ r : Nat, r < 256 ∧ e = .returned (.int .i64 (r : Int))) ∧ SrcAt w' p v (m + 1) ∧ Far p (p + 1) w w') := by
  obtain ⟨a, sd, ha, hs0, hs1, hpp⟩ := hp
  unfold maxLen at hN
  have c0 : w.cell? ⟨p, 0, none⟩ = some v := by rw [Joins.cell_of_block hpp 0]; rfl
  have c1 : w.cell? ⟨p, 1, none⟩ = some (.int .i64 (a : Int)) := by rw [Joins.cell_of_block hpp 1]; rfl
  have c2 : w.cell? ⟨p, 2, none⟩ = some (.int .u64 sd) := by rw [Joins.cell_of_block hpp 2]; rfl
  have f1 : w.frozen? ⟨p, 1, none⟩ = false := Joins.unfrozen_of_block hpp 1
  have f2 : w.frozen? ⟨p, 2, none⟩ = false := Joins.unfrozen_of_block hpp 2
  have HG : Hid (∀ z : Int, SrcAt ((w.setCell ⟨p, 1, none⟩ (.int .i64 ((a : Int) + 1))).setCell ⟨p, 2, none⟩ (.int .u64 (IntKind.u64.wrap z))) p v (m + 1) ∧ Far p (p + 1) w ((w.setCell ⟨p, 1, none⟩ (.int .i64 ((a : Int) + 1))).setCell ⟨p, 2, none⟩ (.int .u64 (IntKind.u64.wrap z)))) := fun z => by
    have hwr : 0 ≤ IntKind.u64.wrap z ∧ IntKind.u64.wrap z < 18446744073709551616 := by
      simp only [IntKind.wrap, IntKind.bits, IntKind.signed]
      simp
      omega
    refine ⟨⟨a + 1, IntKind.u64.wrap z, by omega, hwr.1, hwr.2, ?_⟩, rfl, rfl, rfl, by simp [World.setCell], fun k hk hd => ?_⟩
    · exact Joins.block_setCell (Joins.block_setCell hpp (.int .i64 ((a : Int) + 1))) (.int .u64 (IntKind.u64.wrap z))
    · rw [Below.heap_setCell _ _ _ _ (by show k ≠ p; omega), Below.heap_setCell _ _ _ _ (by show k ≠ p; omega)]
  have HC : Hid (∀ z : Int, ((w.setCell ⟨p, 1, none⟩ (.int .i64 ((a : Int) + 1))).setCell ⟨p, 2, none⟩ (.int .u64 (IntKind.u64.wrap z))).cell? ⟨p, 0, none⟩ = some v ∧ ((w.setCell ⟨p, 1, none⟩ (.int .i64 ((a : Int) + 1))).setCell ⟨p, 2, none⟩ (.int .u64 (IntKind.u64.wrap z))).cell? ⟨p, 1, none⟩ = some (.int .i64 ((a : Int) + 1)) ∧ ((w.setCell ⟨p, 1, none⟩ (.int .i64 ((a : Int) + 1))).setCell ⟨p, 2, none⟩ (.int .u64 (IntKind.u64.wrap z))).cell? ⟨p, 2, none⟩ = some (.int .u64 (IntKind.u64.wrap z))) := fun z => by
    have hb : ((w.setCell ⟨p, 1, none⟩ (.int .i64 ((a : Int) + 1))).setCell ⟨p, 2, none⟩ (.int .u64 (IntKind.u64.wrap z))).heap[p]? = some (.cells #[v, .int .i64 ((a : Int) + 1), .int .u64 (IntKind.u64.wrap z)] 155 (0, 0)) := Joins.block_setCell (Joins.block_setCell hpp (.int .i64 ((a : Int) + 1))) (.int .u64 (IntKind.u64.wrap z))
    exact ⟨by rw [Joins.cell_of_block hb 0]; rfl, by rw [Joins.cell_of_block hb 1]; rfl, by rw [Joins.cell_of_block hb 2]; rfl⟩
  clear hpp
  by_cases hlt : a < ns.length
  · rcases hv with ⟨ao, cap, rfl, rfl⟩ | ⟨b, off, cap, rfl, h0, hb, hc⟩
    · cases hlt
    have hc1 := hc a hlt
    obtain ⟨x, hx⟩ : ∃ x, ns.getD a 0 = x := ⟨_, rfl⟩
    have hx2 := hby a
    rw [hx] at hc1 hx2
    obtain ⟨N, hNN⟩ : ∃ N, ns.length = N := ⟨_, rfl⟩
    rw [hNN] at hN hlt c0 HG HC
    have HNN := Lib.hid hNN
    clear hc hby hx hNN h0 hs0 hs1
    have k1 : (a : Int) < N := by omega
    have k2 : (0 : Int) ≤ a := by omega
    go_enter Tryd.func132, Tryd.ntmps132
    go_wp2
    go_region
    go_wp2
    go_region
    go_upto_region 2 with fail
    generalize IntKind.u64.wrap (sd * 6364136223846793005) + (x : Int) = z1
    generalize IntKind.u64.wrap z1 + 1442695040888963407 = z2
    obtain ⟨g0, g1, g2⟩ := HC.out z2
    obtain ⟨W2, hW2⟩ : ∃ W, (w.setCell ⟨p, 1, none⟩ (.int .i64 ((a : Int) + 1))).setCell ⟨p, 2, none⟩ (.int .u64 (IntKind.u64.wrap z2)) = W := ⟨_, rfl⟩
    have HR := Lib.hid (HG.out z2)
    rw [hW2] at g0 g1 g2 HR ⊢
    clear hW2 HC HG c0 c1 c2 f1 f2
    have k3 : (a : Int) + 1 ≤ (N : Int) := by omega
    go_region
    go_wp2
    go_ret
    rw [HNN.out]
    exact ⟨⟨x, hx2, rfl⟩, HR.out.1.drew.drew.drew, HR.out.2.drew.drew.drew⟩
  · have k1 : ¬ (a : Int) < (ns.length : Int) := by omega
    obtain ⟨ao, cap, rfl⟩ := hv.form
    obtain ⟨N, hNN⟩ : ∃ N, ns.length = N := ⟨_, rfl⟩
    rw [hNN] at hN hlt c0 HG HC k1
    have HNN := Lib.hid hNN
    clear hby hNN hs0 hs1 hv
    go_enter Tryd.func132, Tryd.ntmps132
    go_wp2
    go_region
    go_upto_region 2 with fail
    generalize IntKind.u64.wrap (IntKind.u64.wrap (sd * 6364136223846793005)) + 1442695040888963407 = z2
    obtain ⟨g0, g1, g2⟩ := HC.out z2
    obtain ⟨W2, hW2⟩ : ∃ W, (w.setCell ⟨p, 1, none⟩ (.int .i64 ((a : Int) + 1))).setCell ⟨p, 2, none⟩ (.int .u64 (IntKind.u64.wrap z2)) = W := ⟨_, rfl⟩
    have HR := Lib.hid (HG.out z2)
    have hz : 0 ≤ IntKind.u64.wrap z2 ∧ IntKind.u64.wrap z2 < 18446744073709551616 := by
      obtain ⟨a', sd', e1, e2, e3, e4⟩ := HR.out.1
      have h1 : (.int .u64 sd' : Value) = .int .u64 (IntKind.u64.wrap z2) := by
        have h2 : ((w.setCell ⟨p, 1, none⟩ (.int .i64 ((a : Int) + 1))).setCell ⟨p, 2, none⟩ (.int .u64 (IntKind.u64.wrap z2))).cell? ⟨p, 2, none⟩ = some (.int .u64 sd') := by rw [Joins.cell_of_block e4 2]; rfl
        exact Option.some.inj (h2.symm.trans g2)
      injection h1 with _ h1
      rw [← h1]
      exact ⟨e2, e3⟩
    rw [hW2] at g0 g1 g2 HR ⊢
    obtain ⟨sv, hsv⟩ : ∃ s, IntKind.u64.wrap z2 = s := ⟨_, rfl⟩
    rw [hsv] at g2 hz ⊢
    clear hW2 HC HG c0 c1 c2 f1 f2 hsv
    have k3 : ¬ (a : Int) + 1 ≤ (N : Int) := by omega
    go_region
    go_wp2
    go_ret
    rw [HNN.out]
    refine ⟨?_, HR.out.1.drew.drew, HR.out.2.drew.drew⟩
    have hd0 : 0 ≤ sv / 1099511627776 := Int.ediv_nonneg hz.1 (by omega)
    have hd1 : sv / 1099511627776 < 18446744073709551616 := by omega
    have he := u64_and (sv / 1099511627776) 255 hd0 hd1 (by omega) (by omega)
    have hl : (sv / 1099511627776).toNat &&& (255 : Int).toNat ≤ 255 := Nat.and_le_right
    refine ⟨(sv / 1099511627776).toNat &&& (255 : Int).toNat, by omega, ?_⟩
    exact ret_int (by rw [he]; unfold wrap64; omega)

/-! ### a source whose bytes lie apart from it -/
structure Src (W : World) (p : Nat) (v : Value) (ns : List Nat) (m : Nat) : Prop where
  at_ : SrcAt W p v m
  y : SlY W v ns
  sep : ∀ b off n cap, v = .slice (some ⟨b, off, none⟩) n cap → 0 < n → b < p
  by_ : ∀ i, ns.getD i 0 < 256
  len : ns.length ≤ maxLen
theorem Src.lt {W : World} {p : Nat} {v : Value} {ns : List Nat} {m : Nat} (h : Src W p v ns m) : p < W.heap.size := by
  obtain ⟨a, sd, _, _, _, hp⟩ := h.at_
  exact (Array.getElem?_eq_some_iff.1 hp).1
theorem Src.keep {W W' : World} {p : Nat} {v : Value} {ns : List Nat} {m m' : Nat} (h : Src W p v ns m) (hk : ∀ k, k < p → W'.heap[k]? = W.heap[k]?) (hs : W.heap.size ≤ W'.heap.size) (ha : SrcAt W' p v m') : Src W' p v ns m' := by
  refine ⟨ha, ?_, h.sep, h.by_, h.len⟩
  rcases h.y with ⟨ao, cap, e1, e2⟩ | ⟨b, off, cap, e1, e2, e3, e4⟩
  · exact Or.inl ⟨ao, cap, e1, e2⟩
  · have hb := h.sep b off ns.length cap e1 e2
    exact Or.inr ⟨b, off, cap, e1, e2, Nat.lt_of_lt_of_le e3 hs, fun i hi => (World.cell?_of_block (w := W) (a := ⟨b, off + i, none⟩) (hk b hb)).trans (e4 i hi)⟩
theorem Src.bel {W W' : World} {p n : Nat} {v : Value} {ns : List Nat} {m : Nat} (h : Src W p v ns m) (hb : Below n W W') (hn : p < n) : Src W' p v ns m := by
  obtain ⟨a, sd, h1, h2, h3, hp⟩ := h.at_
  exact h.keep (fun k hk => hb.block k (by omega)) hb.size ⟨a, sd, h1, h2, h3, (hb.block p hn).trans hp⟩
theorem Src.far {W W' : World} {p l r : Nat} {v : Value} {ns : List Nat} {m : Nat} (h : Src W p v ns m) (hf : Far l r W W') (hn : p < l ∨ r = 0) : Src W' p v ns m := by
  obtain ⟨a, sd, h1, h2, h3, hp⟩ := h.at_
  have hl := h.lt
  exact h.keep (fun k hk => hf.block k (by omega) (by omega)) hf.size ⟨a, sd, h1, h2, h3, (hf.block p hl (by omega)).trans hp⟩
theorem Src.more {W : World} {p : Nat} {v : Value} {ns : List Nat} {m m' : Nat} (h : Src W p v ns m) (hm : m ≤ m') : Src W p v ns m' := by
  obtain ⟨a, sd, h1, h2⟩ := h.at_
  exact ⟨⟨a, sd, by omega, h2⟩, h.y, h.sep, h.by_, h.len⟩

/-- what a draw leaves -/
def Drew (p : Nat) (v : Value) (ns : List Nat) (m : Nat) (w w' : World) : Prop := Src w' p v ns m ∧ Far p (p + 1) w w'
theorem Drew.src {p : Nat} {v : Value} {ns : List Nat} {m : Nat} {w w' : World} (h : Drew p v ns m w w') : Src w' p v ns m := h.1
theorem Far.trans {l r : Nat} {a b c : World} (h1 : Far l r a b) (h2 : Far l r b c) : Far l r a c :=
  ⟨h2.os.trans h1.os, h2.tape.trans h1.tape, h2.output.trans h1.output, Nat.le_trans h1.size h2.size, fun k hk hd => (h2.block k (Nat.lt_of_lt_of_le hk h1.size) hd).trans (h1.block k hk hd)⟩

theorem nextS (p : Nat) (v : Value) (ns : List Nat) (m : Nat) (w : World) (h : Src w p v ns m) (hm : m ≤ 1000000) :
    Calls Tryd.prog 132 #[.pointer (some ⟨p, 0, none⟩)] w (fun e w' => (∃ r : Nat, r < 256 ∧ e = .returned (.int .i64 (r : Int))) ∧ Drew p v ns (m + 1) w w') :=
  (next_any p v ns m w h.at_ h.y h.by_ h.len hm).mono fun e w' ⟨h1, h2, h3⟩ => ⟨h1, h.keep (fun k hk => h3.block k (by have := h.lt; omega) (Or.inl hk)) h3.size h2, h3⟩

set_option maxHeartbeats 1000000 in
theorem pick_any (p : Nat) (v : Value) (ns : List Nat) (m : Nat) (n : Int) (w : World) (h : Src w p v ns m) (hm : m ≤ 1000000) (hn : n ≤ 200) :
    Calls Tryd.prog 76 #[.pointer (some ⟨p, 0, none⟩), .int .i64 n] w (fun e w' => (∃ r : Nat, (r : Int) < max n 1 ∧ e = .returned (.int .i64 (r : Int))) ∧ Drew p v ns (m + 1) w w') := by
  by_cases h1 : n ≤ 1
  · have HR : Hid (Drew p v ns (m + 1) w w) := ⟨h.more (by omega), ⟨rfl, rfl, rfl, Nat.le_refl _, fun _ _ _ => rfl⟩⟩
    clear h
    go_enter Tryd.func76, Tryd.ntmps76
    go_wp2
    go_ret
    exact ⟨⟨0, by omega, rfl⟩, HR.out⟩
  · have C := Lib.hid (nextS p v ns m w h hm)
    clear h
    go_enter Tryd.func76, Tryd.ntmps76
    go_wp2_with fail
    refine C.out.mono ?_
    rintro e w' ⟨⟨r, hr, rfl⟩, hd⟩
    have HD := Lib.hid hd
    have hm0 : (r : Int).tmod n = (r : Int) % n := Int.tmod_eq_emod_of_nonneg (by omega)
    have h2 : 0 ≤ (r : Int) % n := Int.emod_nonneg _ (by omega)
    have h3 : (r : Int) % n < n := Int.emod_lt_of_pos _ (by omega)
    have h4 : ¬ n = 0 := by omega
    clear hd C
    go_wp2
    go_ret
    refine ⟨⟨((r : Int) % n).toNat, by omega, ?_⟩, HD.out⟩
    exact ret_int (by omega)

set_option maxHeartbeats 1000000 in
theorem one_any (p : Nat) (v : Value) (ns : List Nat) (m : Nat) (n : Int) (w : World) (h : Src w p v ns m) (hm : m ≤ 1000000) (hn : n ≤ 200) :
    Calls Tryd.prog 133 #[.pointer (some ⟨p, 0, none⟩), .int .i64 n] w (fun e w' => (∃ b : Bool, e = .returned (.bool b)) ∧ Drew p v ns (m + 1) w w') := by
  have C := Lib.hid (pick_any p v ns m n w h hm hn)
  clear h
  go_enter Tryd.func133, Tryd.ntmps133
  go_wp2_with fail
  refine C.out.mono ?_
  rintro e w' ⟨⟨r, hr, rfl⟩, hd⟩
  have HD := Lib.hid hd
  clear hd C
  go_wp2
  go_ret
  exact ⟨⟨_, rfl⟩, HD.out⟩

theorem from_any (v : Value) (ns : List Nat) (w : World) (hv : SlY w v ns) (hby : ∀ i, ns.getD i 0 < 256) (hN : ns.length ≤ maxLen) :
    Calls Tryd.prog 75 #[v] w (fun e w' => e = .returned (.pointer (some ⟨w.heap.size, 0, none⟩)) ∧ Src w' w.heap.size v ns 0 ∧ Below w.heap.size w w') := by
  have HR : Hid (Src (w.alloc (.cells #[v, .int .i64 0, .int .u64 0] 155)) w.heap.size v ns 0 ∧ Below w.heap.size w (w.alloc (.cells #[v, .int .i64 0, .int .u64 0] 155))) := by
    refine ⟨⟨⟨0, 0, Nat.le_refl _, Int.le_refl _, by decide, heap_alloc_last w _⟩, hv.below (Joins.below_alloc1 _ _), fun b off n cap e hn => ?_, hby, hN⟩, Joins.below_alloc1 _ _⟩
    rcases hv with ⟨ao, c, e1, e2⟩ | ⟨b1, o1, c1, e1, e2, e3, e4⟩
    · rw [e1] at e; injection e with _ e; omega
    · rw [e1] at e; injection e with e; injection e with e; injection e with e; omega
  obtain ⟨ao, cap, rfl⟩ := hv.form
  clear hv
  go_enter Tryd.func75, Tryd.ntmps75
  go_wp2
  go_ret
  exact ⟨rfl, HR.out.1, HR.out.2⟩
end Go.Proofs.YtabkkpifkkgpeaaDoor
