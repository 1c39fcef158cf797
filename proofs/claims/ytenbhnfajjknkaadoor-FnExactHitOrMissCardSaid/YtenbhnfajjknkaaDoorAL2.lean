/- Contracts of single functions, and plain lemmas, on which the exact laws of this seat rest; each holds under the conditions that it states. -/
import Derived.Test.YtenbhnfajjknkaaDoorAn
import Derived.Test.YtenbhnfajjknkaaDoorQh
import Derived.Deep.RegionHeld3
import Derived.Test.YtenbhnfajjknkaaDoorPb
import Derived.Test.YtenbhnfajjknkaaDoorMw
import Derived.Test.YtenbhnfajjknkaaDoorHd
import Derived.Test.YtenbhnfajjknkaaDoorAi
namespace Go.Proofs.YtenbhnfajjknkaaDoor
set_option linter.unusedVariables false
set_option linter.unusedSimpArgs false
open Go.RowKit

/-- a copy of an element -/
def TookEl (w : World) (xs : List (Int × Int)) (e : Ending) (w' : World) : Prop := ∃ g cap, e = .returned (.agg #[.slice (some ⟨g, 0, none⟩) xs.length cap]) ∧ OwnS w' w.heap.size (.slice (some ⟨g, 0, none⟩) xs.length cap) xs ∧ Below w.heap.size w w'

theorem toElement_any (v : Value) (xs : List (Int × Int)) (w : World) (hN : xs.length ≤ 1048576) (hv : SlA w v xs) :
    Calls Tryd.prog 15 #[.agg #[v]] w (TookEl w xs) := by
  have HB0 := Lib.hid (Joins.below_alloc3 w (.cells #[v] 27) (.cells #[.slice none 0 0] 36) (.cells #[.slice none 0 0] 36))
  have h3 := heap_alloc_last ((w.alloc (.cells #[v] 27)).alloc (.cells #[.slice none 0 0] 36)) (.cells #[.slice none 0 0] 36)
  have h2 : (((w.alloc (.cells #[v] 27)).alloc (.cells #[.slice none 0 0] 36)).alloc (.cells #[.slice none 0 0] 36)).heap[w.heap.size + 1]? = some (.cells #[.slice none 0 0] 36 (0, 0)) := by
    rw [Below.heap_alloc _ _ _ (by simp)]
    have := heap_alloc_last (w.alloc (.cells #[v] 27)) (.cells #[.slice none 0 0] 36)
    rwa [World.size_alloc] at this
  simp only [World.size_alloc] at h3
  have H2 := Lib.hid h2
  have H3 := Lib.hid h3
  have C := Lib.hid (toSpotS_sl v xs _ hN (hv.below HB0.out))
  have hs0 : (((w.alloc (.cells #[v] 27)).alloc (.cells #[.slice none 0 0] 36)).alloc (.cells #[.slice none 0 0] 36)).heap.size = w.heap.size + 1 + 1 + 1 := by simp
  clear h2 h3 hv
  go_enter Tryd.func15, Tryd.ntmps15
  go_wp2_with fail
  refine C.out.mono ?_
  rintro e w1 ⟨rfl, hown, hb⟩
  rw [hs0] at hown hb ⊢
  have P2 := Lib.hid ((hb.block (w.heap.size + 1) (by omega)).trans H2.out)
  have P3 := Lib.hid ((hb.block (w.heap.size + 1 + 1) (by omega)).trans H3.out)
  have B1 := Lib.hid (HB0.out.trans (hb.mono (by omega)))
  have O1 := Lib.hid hown
  have c2 := cell_of_one P2.out
  have c3 := cell_of_one P3.out
  have f2 := free_of_one P2.out
  have f3 := free_of_one P3.out
  have l2 := (Array.getElem?_eq_some_iff.1 P2.out).1
  have l3 := (Array.getElem?_eq_some_iff.1 P3.out).1
  have P2' : Hid ((w1.setCell ⟨w.heap.size + 1 + 1, 0, none⟩ (.slice (some ⟨w.heap.size + 1 + 1 + 1, 0, none⟩) xs.length xs.length)).heap[w.heap.size + 1]? = some (.cells #[.slice none 0 0] 36 (0, 0))) := (Below.heap_setCell _ _ _ _ (by simp)).trans P2.out
  have O2 := Lib.hid (own_set (u := .slice (some ⟨w.heap.size + 1 + 1 + 1, 0, none⟩) xs.length xs.length) (own_set (u := .slice (some ⟨w.heap.size + 1 + 1 + 1, 0, none⟩) xs.length xs.length) O1.out P3.out (by decide)) P2'.out (by decide))
  have B2 := Lib.hid ((B1.out.setCell (p := ⟨w.heap.size + 1 + 1, 0, none⟩) (by simp; omega) (.slice (some ⟨w.heap.size + 1 + 1 + 1, 0, none⟩) xs.length xs.length)).setCell (p := ⟨w.heap.size + 1, 0, none⟩) (by simp) (.slice (some ⟨w.heap.size + 1 + 1 + 1, 0, none⟩) xs.length xs.length))
  clear hown hb
  go_wp2_with fail
  exact bodyPost_ret (results_cell1 (p := 2) (ty := 36) Tryd.results15 _ _ (w.heap.size + 1) 36 #[.slice (some ⟨w.heap.size + 1 + 1 + 1, 0, none⟩) xs.length xs.length] (0, 0) _ rfl (one_setCell P2'.out) Tryd.underlying36 rfl infoEl) rfl ⟨_, _, rfl, Joins.ownsRow_le O2.out (by omega), B2.out⟩

theorem szElement_any (v : Value) (xs : List (Int × Int)) (left : Int) (w : World) (h0 : 0 ≤ left) (h1 : left ≤ 1048576) (hN : xs.length ≤ maxLen) (hv : SlA w v xs) :
    Calls Tryd.prog 12 #[.agg #[v], .int .i64 left] w (fun e w' => ∃ r : Int, e = .returned (.int .i64 r) ∧ r ≤ left ∧ -1 ≤ r ∧ (0 ≤ r → (xs.length : Int) ≤ left) ∧ Below w.heap.size w w') := by
  obtain ⟨ao, cap, rfl⟩ : ∃ ao cap, v = .slice ao xs.length cap := by
    rcases hv with ⟨ao, cap, rfl, rfl⟩ | ⟨b, off, cap, rfl, _⟩
    · exact ⟨_, _, rfl⟩
    · exact ⟨_, _, rfl⟩
  have C := Lib.hid (fun W => szSpotS_any ao xs.length cap left W h0 h1 hN)
  clear hv hN
  go_enter Tryd.func12, Tryd.ntmps12
  go_wp2_with fail
  refine (C.out _).mono ?_
  rintro e w' ⟨r, rfl, h2, h3, h4, rfl⟩
  by_cases hr : r < 0
  · go_wp2_with fail
    go_ret
    exact ⟨_, rfl, by omega, by omega, fun h => absurd h (by decide), Joins.below_alloc1 w _⟩
  · go_wp2_with fail
    go_ret
    exact ⟨_, rfl, by omega, by omega, h4, Joins.below_alloc1 w _⟩

end Go.Proofs.YtenbhnfajjknkaaDoor

/- Contracts of single functions, and plain lemmas, on which the exact laws of this seat rest; each holds under the conditions that it states. -/
namespace Go.Proofs.YtenbhnfajjknkaaDoor
set_option linter.unusedVariables false
open Go.RowKit

/-! ### what the walks of the laws of one shape share: what lies in a stretch of blocks is kept while another stretch is written -/
/-- all is kept but for the blocks from l on, below r -/
structure Far (l r : Nat) (W W' : World) : Prop where
  os : W'.os = W.os
  tape : W'.tape = W.tape
  output : W'.output = W.output
  size : W.heap.size ≤ W'.heap.size
  block : ∀ k, k < W.heap.size → (k < l ∨ r ≤ k) → W'.heap[k]? = W.heap[k]?

theorem Far.ofB {W W' : World} (h : Below W.heap.size W W') : Far 0 0 W W' := ⟨h.os, h.tape, h.output, h.size, fun k hk _ => h.block k hk⟩
theorem Far.ofG {W W' : World} {l r : Nat} {row : Option Nat} (hg : W.grownBy W' row) (h : ∀ j, row = some j → l ≤ j ∧ j < r) : Far l r W W' :=
  ⟨hg.os, hg.tape, hg.output, hg.size, fun k hk hd => hg.block k hk (fun e => by have := h k e.symm; omega)⟩
theorem Far.bel {W W' w : World} {l r n : Nat} (h : Far l r W W') (hb : Below n w W) (hd : n ≤ l ∨ r = 0) (hs : n ≤ w.heap.size) : Below n w W' :=
  ⟨h.os.trans hb.os, h.tape.trans hb.tape, h.output.trans hb.output, Nat.le_trans hb.size h.size, fun k hk => (h.block k (Nat.lt_of_lt_of_le hk (Nat.le_trans hs hb.size)) (by omega)).trans (hb.block k hk)⟩
theorem Far.cells {W W' : World} {l r b : Nat} {x : Obj} (h : Far l r W W') (hc : W.heap[b]? = some x) (hd : b < l ∨ r ≤ b) : W'.heap[b]? = some x :=
  (h.block b (Array.getElem?_eq_some_iff.1 hc).1 hd).trans hc

/-- it rests on the blocks from lo on, below hi, alone -/
def Liv (lo hi : Nat) (O : World → Prop) : Prop := ∀ l r W W', Far l r W W' → (hi ≤ l ∨ r ≤ lo) → O W → O W'

/-- a row of the call's own in a stretch of blocks -/
structure Row (e : TypeId) (s lo hi : Nat) (v : Value) (n : Nat) (xs : List Value) (W : World) : Prop where
  o : W.ownsRow lo e s v n xs
  lt : ∀ j, v.ownBlock = some j → j < hi
theorem Row.inb {e : TypeId} {s lo hi n : Nat} {v : Value} {xs : List Value} {W : World} (h : Row e s lo hi v n xs W) : ∀ j, v.ownBlock = some j → lo ≤ j ∧ j < hi :=
  fun j hj => ⟨(h.o.lt j hj).1, h.lt j hj⟩
theorem Row.liv {e : TypeId} {s lo hi n : Nat} {v : Value} {xs : List Value} : Liv lo hi (Row e s lo hi v n xs) := by
  intro l r W W' hf hd h
  refine ⟨⟨h.o.1, ?_⟩, h.lt⟩
  rcases h.o.2 with h2 | ⟨g, cap, cur, hv, hb, hg, rest⟩
  · exact Or.inl h2
  · subst hv
    have h1 := h.inb g rfl
    exact Or.inr ⟨g, cap, cur, rfl, hb, hf.cells hg (by omega), rest⟩

/-- a value of the call's own in a variable: its memory from lo on, below hi; all of it from L on, below H -/
structure VarO (O : World → Prop) (t : TypeId) (b : Nat) (v : Value) (lo hi L H : Nat) (W : World) : Prop where
  c : W.heap[b]? = some (.cells #[v] t (0, 0))
  o : O W
  liv : Liv lo hi O
  hb : b < lo ∨ hi ≤ b
  hl : L ≤ lo
  hh : hi ≤ H
  hb1 : L ≤ b
  hb2 : b < H
section
variable {O O' : World → Prop} {t : TypeId} {b lo hi L H l r : Nat} {v : Value} {W W' : World}
theorem VarO.far (h : VarO O t b v lo hi L H W) (hf : Far l r W W') (hd : H ≤ l ∨ r ≤ L) : VarO O t b v lo hi L H W' :=
  ⟨hf.cells h.c (by have := h.hb1; have := h.hb2; omega), h.liv l r W W' hf (by have := h.hl; have := h.hh; omega) h.o, h.liv, h.hb, h.hl, h.hh, h.hb1, h.hb2⟩
theorem VarO.far0 (h : VarO O t b v lo hi L H W) (hf : Far 0 0 W W') : VarO O t b v lo hi L H W' := h.far hf (Or.inr (Nat.zero_le _))
theorem VarO.val (h : VarO O t b v lo hi L H W) : W.cell? ⟨b, 0, none⟩ = some v := cell_of_one h.c
theorem VarO.marked (h : VarO O t b v lo hi L H W) (hf : Far lo hi W W') (ho : O' W') (hl : Liv lo hi O') : VarO O' t b v lo hi L H W' :=
  ⟨hf.cells h.c (by have := h.hb; omega), ho, hl, h.hb, h.hl, h.hh, h.hb1, h.hb2⟩
/-- the cell of a variable that is just made -/
theorem VarO.new (ho : O W) (hl : Liv lo hi O) (hhi : hi ≤ W.heap.size) (hf : Far 0 0 W (W.alloc (.cells #[v] t)))  (hL : L ≤ lo) (hL2 : L ≤ W.heap.size) : VarO O t W.heap.size v lo hi L (W.heap.size + 1) (W.alloc (.cells #[v] t)) :=
  ⟨heap_alloc_last W _, hl 0 0 W _ hf (Or.inr (Nat.zero_le _)) ho, hl, Or.inr hhi, hL, by omega, hL2, by omega⟩
end
theorem far_alloc (W : World) (o : Obj) : Far 0 0 W (W.alloc o) := Far.ofB (Joins.below_alloc1 W o)
/-- a store into one's own variable -/
theorem far_set (W : World) (b : Nat) (v : Value) : Far b (b + 1) W (W.setCell ⟨b, 0, none⟩ v) :=
  ⟨rfl, rfl, rfl, by simp [World.setCell], fun k hk hd => Below.heap_setCell W ⟨b, 0, none⟩ v k (by show k ≠ b; omega)⟩
theorem VarO.set {O : World → Prop} {t : TypeId} {b lo hi L H : Nat} {v x : Value} {W : World} (hc : W.heap[b]? = some (.cells #[x] t (0, 0))) (ho : O W) (hl : Liv lo hi O) (hb : b < lo ∨ hi ≤ b) (hL : L ≤ lo) (hH : hi ≤ H) (h1 : L ≤ b) (h2 : b < H) :
    VarO O t b v lo hi L H (W.setCell ⟨b, 0, none⟩ v) :=
  ⟨one_setCell hc, hl b (b + 1) W _ (far_set W b v) (by omega) ho, hl, hb, hL, hH, h1, h2⟩

/-! ### the kinds -/
/-- a picture's rows -/
abbrev PicO (lo hi : Nat) (v : Value) (ss : List ByteArray) : World → Prop := Row 9 1 lo hi v ss.length (ss.map Value.string)
theorem PicO.of {W : World} {lo hi : Nat} {v : Value} {ss : List ByteArray} (h : OwnP W lo v ss) (hh : W.heap.size ≤ hi) : PicO lo hi v ss W :=
  ⟨h, fun j hj => Nat.lt_of_lt_of_le (h.lt j hj).2 hh⟩
theorem PicO.sl {W : World} {lo hi : Nat} {v : Value} {ss : List ByteArray} (h : PicO lo hi v ss W) : Sl W v ss := OwnP.sl h.o
theorem mark_pic (v : Value) (ss : List ByteArray) (lo hi k : Nat) (W : World) (h1 : 1 ≤ k) (h2 : k + ss.length ≤ 9000000) (h : PicO lo hi v ss W) :
    Calls Tryd.prog 19 #[.agg #[v], .int .i64 k] W (fun e w' => e = .returned (.int .i64 ((k + ss.length : Nat) : Int)) ∧ PicO lo hi v (marks k ss.length) w' ∧ Far lo hi W w') :=
  (markPicture_any v ss lo k W h1 h2 h.o).mono fun e w' ⟨e1, ho, hg⟩ => ⟨e1, ⟨ho, h.lt⟩, Far.ofG hg h.inb⟩
end Go.Proofs.YtenbhnfajjknkaaDoor

/- Contracts of single functions, and plain lemmas, on which the exact laws of this seat rest; each holds under the conditions that it states. -/
namespace Go.Proofs.YtenbhnfajjknkaaDoor
set_option linter.unusedVariables false
open Go.RowKit

/-- an element's offsets -/
abbrev ElO (lo hi : Nat) (v : Value) (xs : List (Int × Int)) : World → Prop := Row 79 2 lo hi v xs.length (flat2 xs)
theorem ElO.of {W : World} {lo hi : Nat} {v : Value} {xs : List (Int × Int)} (h : OwnS W lo v xs) (hh : W.heap.size ≤ hi) : ElO lo hi v xs W :=
  ⟨h, fun j hj => Nat.lt_of_lt_of_le (h.lt j hj).2 hh⟩
theorem ElO.sl {W : World} {lo hi : Nat} {v : Value} {xs : List (Int × Int)} (h : ElO lo hi v xs W) : SlS W v xs := OwnS.sl h.o
theorem mark_el (v : Value) (xs : List (Int × Int)) (lo hi k : Nat) (W : World) (h1 : 1 ≤ k) (h2 : k + xs.length * 2 ≤ 9000000) (h : ElO lo hi v xs W) :
    Calls Tryd.prog 20 #[.agg #[v], .int .i64 k] W (fun e w' => e = .returned (.int .i64 ((k + xs.length * 2 : Nat) : Int)) ∧ ElO lo hi v (marksS k xs.length) w' ∧ Far lo hi W w') :=
  (markElement_any v xs lo k W h1 h2 h.o).mono fun e w' ⟨e1, ho, hg⟩ => ⟨e1, ⟨ho, h.lt⟩, Far.ofG hg h.inb⟩
/-- a row of one's own has room for what it holds -/
theorem own_capA {W : World} {base s n : Nat} {e : TypeId} {v : Value} {xs : List Value} (h : W.ownsRow base e s v n xs) : ∀ ao m c, v = .slice ao m c → m ≤ c := by
  intro ao m c hv
  rcases h.2 with ⟨rfl, rfl⟩ | ⟨g, cap, cur, rfl, _, _, hc, _⟩
  · cases hv; exact Nat.le_refl _
  · cases hv; exact hc
end Go.Proofs.YtenbhnfajjknkaaDoor
