/- Contracts of single functions, and plain lemmas, on which the exact laws of this seat rest; each holds under the conditions that it states. -/
import Derived.Test.YthblhibkbcmbaaaDoorBY
import Derived.Test.YthblhibkbcmbaaaDoorGB
import Derived.Deep.DeepCutAuto
import Derived.Laws.BitsAllLaws
import Derived.Test.YthblhibkbcmbaaaDoorSc
import Derived.Test.YthblhibkbcmbaaaDoorIs
import Derived.Test.YthblhibkbcmbaaaDoorQb
namespace Go.Proofs.YthblhibkbcmbaaaDoor
set_option linter.unusedVariables false
set_option linter.unusedSimpArgs false
open Go.RowKit
attribute [local go_sem] Oper.semAt_some

/-! ### the source of choices -/
def SrcAt (W : World) (p : Nat) (v : Value) (m : Nat) : Prop := ∃ (a : Nat) (sd : Int), a ≤ m ∧ 0 ≤ sd ∧ sd < 18446744073709551616 ∧ W.heap[p]? = some (.cells #[v, .int .i64 (a : Int), .int .u64 sd] 98 (0, 0))

theorem SrcAt.drew {W : World} {p : Nat} {v : Value} {m : Nat} (h : SrcAt W p v m) : SrcAt W.drew p v m := h
theorem Far.drew {l r : Nat} {W W' : World} (h : Far l r W W') : Far l r W W'.drew := ⟨h.os, h.tape, h.output, h.size, h.block⟩

set_option maxHeartbeats 2000000 in
set_option maxRecDepth 100000 in
theorem next_any (p : Nat) (v : Value) (ns : List Nat) (m : Nat) (w : World) (hp : SrcAt w p v m) (hv : SlY w v ns) (hby : ∀ i, ns.getD i 0 < 256) (hN : ns.length ≤ maxLen) (hm : m ≤ 1000000) :
    Calls Tryd.prog 82 #[.pointer (some ⟨p, 0, none⟩)] w (fun e w' => (∃ r : Nat, r < 256 ∧ e = .returned (.int .i64 (r : Int))) ∧ SrcAt w' p v (m + 1) ∧ Far p (p + 1) w w') := by
  obtain ⟨a, sd, ha, hs0, hs1, hpp⟩ := hp
  unfold maxLen at hN
  have c0 : w.cell? ⟨p, 0, none⟩ = some v := by rw [Joins.cell_of_block hpp 0]; rfl
  have c1 : w.cell? ⟨p, 1, none⟩ = some (.int .i64 (a : Int)) := by rw [Joins.cell_of_block hpp 1]; rfl
  have c2 : w.cell? ⟨p, 2, none⟩ = some (.int .u64 sd) := by rw [Joins.cell_of_block hpp 2]; rfl
  have f1 : w.frozen? ⟨p, 1, none⟩ = false := Joins.unfrozen_of_block hpp 1
  have f2 : w.frozen? ⟨p, 2, none⟩ = false := Joins.unfrozen_of_block hpp 2
  have HG : Hid (∀ z : Int, SrcAt ((w.setCell ⟨p, 1, none⟩ (.int .i64 ((a : Int) + 1))).setCell ⟨p, 2, none⟩ (.int .u64 (IntKind.u64.wrap z))) p v (m + 1) ∧ Far p (p + 1) w ((w.setCell ⟨p, 1, none⟩ (.int .i64 ((a : Int) + 1))).setCell ⟨p, 2, none⟩ (.int .u64 (IntKind.u64.wrap z)))) := fun z => by
    have hwr : 0 ≤ IntKind.u64.wrap z ∧ IntKind.u64.wrap z < 18446744073709551616 := by
      simp only [IntKind.wrap, IntKind.bits, IntKind.signed]
      simp
      omega
    refine ⟨⟨a + 1, IntKind.u64.wrap z, by omega, hwr.1, hwr.2, ?_⟩, rfl, rfl, rfl, by simp [World.setCell], fun k hk hd => ?_⟩
    · exact Joins.block_setCell (Joins.block_setCell hpp (.int .i64 ((a : Int) + 1))) (.int .u64 (IntKind.u64.wrap z))
    · rw [Below.heap_setCell _ _ _ _ (by show k ≠ p; omega), Below.heap_setCell _ _ _ _ (by show k ≠ p; omega)]
  have HC : Hid (∀ z : Int, ((w.setCell ⟨p, 1, none⟩ (.int .i64 ((a : Int) + 1))).setCell ⟨p, 2, none⟩ (.int .u64 (IntKind.u64.wrap z))).cell? ⟨p, 0, none⟩ = some v ∧ ((w.setCell ⟨p, 1, none⟩ (.int .i64 ((a : Int) + 1))).setCell ⟨p, 2, none⟩ (.int .u64 (IntKind.u64.wrap z))).cell? ⟨p, 1, none⟩ = some (.int .i64 ((a : Int) + 1)) ∧ ((w.setCell ⟨p, 1, none⟩ (.int .i64 ((a : Int) + 1))).setCell ⟨p, 2, none⟩ (.int .u64 (IntKind.u64.wrap z))).cell? ⟨p, 2, none⟩ = some (.int .u64 (IntKind.u64.wrap z))) := fun z => by
    have hb : ((w.setCell ⟨p, 1, none⟩ (.int .i64 ((a : Int) + 1))).setCell ⟨p, 2, none⟩ (.int .u64 (IntKind.u64.wrap z))).heap[p]? = some (.cells #[v, .int .i64 ((a : Int) + 1), .int .u64 (IntKind.u64.wrap z)] 98 (0, 0)) := Joins.block_setCell (Joins.block_setCell hpp (.int .i64 ((a : Int) + 1))) (.int .u64 (IntKind.u64.wrap z))
    exact ⟨by rw [Joins.cell_of_block hb 0]; rfl, by rw [Joins.cell_of_block hb 1]; rfl, by rw [Joins.cell_of_block hb 2]; rfl⟩
  clear hpp
  by_cases hlt : a < ns.length
  · rcases hv with ⟨ao, cap, rfl, rfl⟩ | ⟨b, off, cap, rfl, h0, hb, hc⟩
    · cases hlt
    have hc1 := hc a hlt
    obtain ⟨x, hx⟩ : ∃ x, ns.getD a 0 = x := ⟨_, rfl⟩
    have hx2 := hby a
    rw [hx] at hc1 hx2
    obtain ⟨N, hNN⟩ : ∃ N, ns.length = N := ⟨_, rfl⟩
    rw [hNN] at hN hlt c0 HG HC
    have HNN := Lib.hid hNN
    clear hc hby hx hNN h0 hs0 hs1
    have k1 : (a : Int) < N := by omega
    have k2 : (0 : Int) ≤ a := by omega
    go_enter Tryd.func82, Tryd.ntmps82
    go_wp2
    go_region
    go_wp2
    go_region
    go_upto_region 2 with fail
    generalize IntKind.u64.wrap (sd * 6364136223846793005) + (x : Int) = z1
    generalize IntKind.u64.wrap z1 + 1442695040888963407 = z2
    obtain ⟨g0, g1, g2⟩ := HC.out z2
    obtain ⟨W2, hW2⟩ : ∃ W, (w.setCell ⟨p, 1, none⟩ (.int .i64 ((a : Int) + 1))).setCell ⟨p, 2, none⟩ (.int .u64 (IntKind.u64.wrap z2)) = W := ⟨_, rfl⟩
    have HR := Lib.hid (HG.out z2)
    rw [hW2] at g0 g1 g2 HR ⊢
    clear hW2 HC HG c0 c1 c2 f1 f2
    have k3 : (a : Int) + 1 ≤ (N : Int) := by omega
    go_region
    go_wp2
    go_ret
    rw [HNN.out]
    exact ⟨⟨x, hx2, rfl⟩, HR.out.1.drew.drew.drew, HR.out.2.drew.drew.drew⟩
  · have k1 : ¬ (a : Int) < (ns.length : Int) := by omega
    obtain ⟨ao, cap, rfl⟩ := hv.form
    obtain ⟨N, hNN⟩ : ∃ N, ns.length = N := ⟨_, rfl⟩
    rw [hNN] at hN hlt c0 HG HC k1
    have HNN := Lib.hid hNN
    clear hby hNN hs0 hs1 hv
    go_enter Tryd.func82, Tryd.ntmps82
    go_wp2
    go_region
    go_upto_region 2 with fail
    generalize IntKind.u64.wrap (IntKind.u64.wrap (sd * 6364136223846793005)) + 1442695040888963407 = z2
    obtain ⟨g0, g1, g2⟩ := HC.out z2
    obtain ⟨W2, hW2⟩ : ∃ W, (w.setCell ⟨p, 1, none⟩ (.int .i64 ((a : Int) + 1))).setCell ⟨p, 2, none⟩ (.int .u64 (IntKind.u64.wrap z2)) = W := ⟨_, rfl⟩
    have HR := Lib.hid (HG.out z2)
    have hz : 0 ≤ IntKind.u64.wrap z2 ∧ IntKind.u64.wrap z2 < 18446744073709551616 := by
      obtain ⟨a', sd', e1, e2, e3, e4⟩ := HR.out.1
      have h1 : (.int .u64 sd' : Value) = .int .u64 (IntKind.u64.wrap z2) := by
        have h2 : ((w.setCell ⟨p, 1, none⟩ (.int .i64 ((a : Int) + 1))).setCell ⟨p, 2, none⟩ (.int .u64 (IntKind.u64.wrap z2))).cell? ⟨p, 2, none⟩ = some (.int .u64 sd') := by rw [Joins.cell_of_block e4 2]; rfl
        exact Option.some.inj (h2.symm.trans g2)
      injection h1 with _ h1
      rw [← h1]
      exact ⟨e2, e3⟩
    rw [hW2] at g0 g1 g2 HR ⊢
    obtain ⟨sv, hsv⟩ : ∃ s, IntKind.u64.wrap z2 = s := ⟨_, rfl⟩
    rw [hsv] at g2 hz ⊢
    clear hW2 HC HG c0 c1 c2 f1 f2 hsv
    have k3 : ¬ (a : Int) + 1 ≤ (N : Int) := by omega
    go_region
    go_wp2
    go_ret
    rw [HNN.out]
    refine ⟨?_, HR.out.1.drew.drew, HR.out.2.drew.drew⟩
    have hd0 : 0 ≤ sv / 1099511627776 := Int.ediv_nonneg hz.1 (by omega)
    have hd1 : sv / 1099511627776 < 18446744073709551616 := by omega
    have he := u64_and (sv / 1099511627776) 255 hd0 hd1 (by omega) (by omega)
    have hl : (sv / 1099511627776).toNat &&& (255 : Int).toNat ≤ 255 := Nat.and_le_right
    refine ⟨(sv / 1099511627776).toNat &&& (255 : Int).toNat, by omega, ?_⟩
    exact ret_int (by rw [he]; unfold wrap64; omega)

/-! ### a source whose bytes lie apart from it -/
structure Src (W : World) (p : Nat) (v : Value) (ns : List Nat) (m : Nat) : Prop where
  at_ : SrcAt W p v m
  y : SlY W v ns
  sep : ∀ b off n cap, v = .slice (some ⟨b, off, none⟩) n cap → 0 < n → b < p
  by_ : ∀ i, ns.getD i 0 < 256
  len : ns.length ≤ maxLen
theorem Src.lt {W : World} {p : Nat} {v : Value} {ns : List Nat} {m : Nat} (h : Src W p v ns m) : p < W.heap.size := by
  obtain ⟨a, sd, _, _, _, hp⟩ := h.at_
  exact (Array.getElem?_eq_some_iff.1 hp).1
theorem Src.keep {W W' : World} {p : Nat} {v : Value} {ns : List Nat} {m m' : Nat} (h : Src W p v ns m) (hk : ∀ k, k < p → W'.heap[k]? = W.heap[k]?) (hs : W.heap.size ≤ W'.heap.size) (ha : SrcAt W' p v m') : Src W' p v ns m' := by
  refine ⟨ha, ?_, h.sep, h.by_, h.len⟩
  rcases h.y with ⟨ao, cap, e1, e2⟩ | ⟨b, off, cap, e1, e2, e3, e4⟩
  · exact Or.inl ⟨ao, cap, e1, e2⟩
  · have hb := h.sep b off ns.length cap e1 e2
    exact Or.inr ⟨b, off, cap, e1, e2, Nat.lt_of_lt_of_le e3 hs, fun i hi => (World.cell?_of_block (w := W) (a := ⟨b, off + i, none⟩) (hk b hb)).trans (e4 i hi)⟩
theorem Src.bel {W W' : World} {p n : Nat} {v : Value} {ns : List Nat} {m : Nat} (h : Src W p v ns m) (hb : Below n W W') (hn : p < n) : Src W' p v ns m := by
  obtain ⟨a, sd, h1, h2, h3, hp⟩ := h.at_
  exact h.keep (fun k hk => hb.block k (by omega)) hb.size ⟨a, sd, h1, h2, h3, (hb.block p hn).trans hp⟩
theorem Src.far {W W' : World} {p l r : Nat} {v : Value} {ns : List Nat} {m : Nat} (h : Src W p v ns m) (hf : Far l r W W') (hn : p < l ∨ r = 0) : Src W' p v ns m := by
  obtain ⟨a, sd, h1, h2, h3, hp⟩ := h.at_
  have hl := h.lt
  exact h.keep (fun k hk => hf.block k (by omega) (by omega)) hf.size ⟨a, sd, h1, h2, h3, (hf.block p hl (by omega)).trans hp⟩
theorem Src.more {W : World} {p : Nat} {v : Value} {ns : List Nat} {m m' : Nat} (h : Src W p v ns m) (hm : m ≤ m') : Src W p v ns m' := by
  obtain ⟨a, sd, h1, h2⟩ := h.at_
  exact ⟨⟨a, sd, by omega, h2⟩, h.y, h.sep, h.by_, h.len⟩

/-- what a draw leaves -/
def Drew (p : Nat) (v : Value) (ns : List Nat) (m : Nat) (w w' : World) : Prop := Src w' p v ns m ∧ Far p (p + 1) w w'
theorem Drew.src {p : Nat} {v : Value} {ns : List Nat} {m : Nat} {w w' : World} (h : Drew p v ns m w w') : Src w' p v ns m := h.1
theorem nextS (p : Nat) (v : Value) (ns : List Nat) (m : Nat) (w : World) (h : Src w p v ns m) (hm : m ≤ 1000000) :
    Calls Tryd.prog 82 #[.pointer (some ⟨p, 0, none⟩)] w (fun e w' => (∃ r : Nat, r < 256 ∧ e = .returned (.int .i64 (r : Int))) ∧ Drew p v ns (m + 1) w w') :=
  (next_any p v ns m w h.at_ h.y h.by_ h.len hm).mono fun e w' ⟨h1, h2, h3⟩ => ⟨h1, h.keep (fun k hk => h3.block k (by have := h.lt; omega) (Or.inl hk)) h3.size h2, h3⟩

set_option maxHeartbeats 1000000 in
theorem pick_any (p : Nat) (v : Value) (ns : List Nat) (m : Nat) (n : Int) (w : World) (h : Src w p v ns m) (hm : m ≤ 1000000) (hn : n ≤ 200) :
    Calls Tryd.prog 70 #[.pointer (some ⟨p, 0, none⟩), .int .i64 n] w (fun e w' => (∃ r : Nat, (r : Int) < max n 1 ∧ e = .returned (.int .i64 (r : Int))) ∧ Drew p v ns (m + 1) w w') := by
  by_cases h1 : n ≤ 1
  · have HR : Hid (Drew p v ns (m + 1) w w) := ⟨h.more (by omega), ⟨rfl, rfl, rfl, Nat.le_refl _, fun _ _ _ => rfl⟩⟩
    clear h
    go_enter Tryd.func70, Tryd.ntmps70
    go_wp2
    go_ret
    exact ⟨⟨0, by omega, rfl⟩, HR.out⟩
  · have C := Lib.hid (nextS p v ns m w h hm)
    clear h
    go_enter Tryd.func70, Tryd.ntmps70
    go_wp2_with fail
    refine C.out.mono ?_
    rintro e w' ⟨⟨r, hr, rfl⟩, hd⟩
    have HD := Lib.hid hd
    have hm0 : (r : Int).tmod n = (r : Int) % n := Int.tmod_eq_emod_of_nonneg (by omega)
    have h2 : 0 ≤ (r : Int) % n := Int.emod_nonneg _ (by omega)
    have h3 : (r : Int) % n < n := Int.emod_lt_of_pos _ (by omega)
    have h4 : ¬ n = 0 := by omega
    clear hd C
    go_wp2
    go_ret
    refine ⟨⟨((r : Int) % n).toNat, by omega, ?_⟩, HD.out⟩
    exact ret_int (by omega)

set_option maxHeartbeats 1000000 in
theorem one_any (p : Nat) (v : Value) (ns : List Nat) (m : Nat) (n : Int) (w : World) (h : Src w p v ns m) (hm : m ≤ 1000000) (hn : n ≤ 200) :
    Calls Tryd.prog 71 #[.pointer (some ⟨p, 0, none⟩), .int .i64 n] w (fun e w' => (∃ b : Bool, e = .returned (.bool b)) ∧ Drew p v ns (m + 1) w w') := by
  have C := Lib.hid (pick_any p v ns m n w h hm hn)
  clear h
  go_enter Tryd.func71, Tryd.ntmps71
  go_wp2_with fail
  refine C.out.mono ?_
  rintro e w' ⟨⟨r, hr, rfl⟩, hd⟩
  have HD := Lib.hid hd
  clear hd C
  go_wp2
  go_ret
  exact ⟨⟨_, rfl⟩, HD.out⟩

theorem from_any (v : Value) (ns : List Nat) (w : World) (hv : SlY w v ns) (hby : ∀ i, ns.getD i 0 < 256) (hN : ns.length ≤ maxLen) :
    Calls Tryd.prog 53 #[v] w (fun e w' => e = .returned (.pointer (some ⟨w.heap.size, 0, none⟩)) ∧ Src w' w.heap.size v ns 0 ∧ Below w.heap.size w w') := by
  have HR : Hid (Src (w.alloc (.cells #[v, .int .i64 0, .int .u64 0] 98)) w.heap.size v ns 0 ∧ Below w.heap.size w (w.alloc (.cells #[v, .int .i64 0, .int .u64 0] 98))) := by
    refine ⟨⟨⟨0, 0, Nat.le_refl _, Int.le_refl _, by decide, heap_alloc_last w _⟩, hv.below (Joins.below_alloc1 _ _), fun b off n cap e hn => ?_, hby, hN⟩, Joins.below_alloc1 _ _⟩
    rcases hv with ⟨ao, c, e1, e2⟩ | ⟨b1, o1, c1, e1, e2, e3, e4⟩
    · rw [e1] at e; injection e with _ e; omega
    · rw [e1] at e; injection e with e; injection e with e; injection e with e; omega
  obtain ⟨ao, cap, rfl⟩ := hv.form
  clear hv
  go_enter Tryd.func53, Tryd.ntmps53
  go_wp2
  go_ret
  exact ⟨rfl, HR.out.1, HR.out.2⟩
end Go.Proofs.YthblhibkbcmbaaaDoor

/- Contracts of single functions, and plain lemmas, on which the exact laws of this seat rest; each holds under the conditions that it states. -/
namespace Go.Proofs.YthblhibkbcmbaaaDoor
set_option linter.unusedVariables false
set_option linter.unusedSimpArgs false
open Go.RowKit
attribute [local go_sem] Oper.semAt_some

theorem own_farr {W W' : World} {base n s l r : Nat} {e : TypeId} {v : Value} {xs : List Value} (h : W.ownsRow base e s v n xs) (hf : Far l r W W') (hr : r ≤ base) : W'.ownsRow base e s v n xs := by
  refine ⟨h.1, ?_⟩
  rcases h.2 with h2 | ⟨g, cap, cur, hv, hb, hg, rest⟩
  · exact Or.inl h2
  · subst hv
    have h1 := (h.lt g rfl).1
    exact Or.inr ⟨g, cap, cur, rfl, hb, hf.cells hg (by omega), rest⟩
theorem Far.setCell {l r : Nat} {W W' : World} (h : Far l r W W') (b o : Nat) (x : Value) (hb : W.heap.size ≤ b) : Far l r W (W'.setCell ⟨b, o, none⟩ x) :=
  ⟨h.os, h.tape, h.output, Nat.le_trans h.size (by simp [World.setCell]), fun k hk hd => (Below.heap_setCell W' ⟨b, o, none⟩ x k (by show k ≠ b; omega)).trans (h.block k hk hd)⟩
/-- the state of a drawing: a row of bools of its own, its source, the result's variable -/
structure DrSt (w wr : World) (p : Nat) (v : Value) (ns : List Nat) (N m : Nat) (bs : List Bool) : Prop where
  own : wr.ownsRow w.heap.size 4 1 (.slice (some ⟨w.heap.size + 1, 0, none⟩) N N) N (boolV bs)
  len : bs.length = N
  src : Src wr p v ns m
  far : Far p (p + 1) w wr
  lt : p < w.heap.size
  pic : wr.heap[w.heap.size]? = some (.cells #[.slice none 0 0] 29 (0, 0))
theorem DrSt.draw {w wr w2 : World} {p : Nat} {v : Value} {ns : List Nat} {N m m' : Nat} {bs : List Bool} (h : DrSt w wr p v ns N m bs) (hd : Drew p v ns m' wr w2) : DrSt w w2 p v ns N m' bs := by
  have hl := h.lt
  exact ⟨own_farr h.own hd.2 (by omega), h.len, hd.1, h.far.trans hd.2, h.lt, hd.2.cells h.pic (by omega)⟩
theorem DrSt.set {w wr : World} {p : Nat} {v : Value} {ns : List Nat} {N m : Nat} {bs : List Bool} (h : DrSt w wr p v ns N m bs) (i : Nat) (x : Bool) : DrSt w (wr.setCell ⟨w.heap.size + 1, i, none⟩ (.bool x)) p v ns N m (bs.set i x) := by
  have h1 := (h.own.stored i (.bool x)).1
  have e : (boolV bs).set i (.bool x) = boolV (bs.set i x) := by unfold boolV; rw [List.map_set]
  rw [e] at h1
  have hs : Below (w.heap.size + 1) wr (wr.setCell ⟨w.heap.size + 1, i, none⟩ (.bool x)) := (Below.refl (w.heap.size + 1) wr).setCell (p := ⟨w.heap.size + 1, i, none⟩) (Nat.le_refl _) _
  have hl := h.lt
  exact ⟨h1, by rw [List.length_set]; exact h.len, h.src.bel hs (by omega), h.far.setCell _ _ _ (by omega), h.lt, (hs.block _ (by omega)).trans h.pic⟩
theorem DrSt.cell {w wr : World} {p : Nat} {v : Value} {ns : List Nat} {N m : Nat} {bs : List Bool} (h : DrSt w wr p v ns N m bs) (i : Nat) (hi : i < N) : ∃ u, wr.cell? ⟨w.heap.size + 1, i, none⟩ = some u ∧ wr.frozen? ⟨w.heap.size + 1, i, none⟩ = false := by
  have h1 := h.own.cellAt i (by omega)
  have hl : i < (boolV bs).length := by unfold boolV; rw [List.length_map, h.len]; exact hi
  rw [List.getElem?_eq_getElem hl] at h1
  exact ⟨_, h1, h.own.frozenAt i⟩

/-- a picture that is drawn -/
def DrewPic (w : World) (p : Nat) (v : Value) (ns : List Nat) (m wd h : Nat) (e : Ending) (w' : World) : Prop :=
  ∃ (f : Nat → Nat → Bool) (g cap : Nat), e = .returned (.agg #[.slice (some ⟨g, 0, none⟩) h cap]) ∧ OwnP w' w.heap.size (.slice (some ⟨g, 0, none⟩) h cap) (mkPic wd h f) ∧ Src w' p v ns m ∧ Far p (p + 1) w w'

end Go.Proofs.YthblhibkbcmbaaaDoor
