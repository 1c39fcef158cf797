/- Contracts of single functions, and plain lemmas, on which the exact laws of this seat rest; each holds under the conditions that it states. -/
import Derived.Test.YtnmnlbgialolhaaDoorBY
import Derived.Test.YtnmnlbgialolhaaDoorAL1
import Derived.Deep.DeepCutAuto
import Derived.Laws.BitsAllLaws
import Derived.Test.YtnmnlbgialolhaaDoorSc
import Derived.Test.YtnmnlbgialolhaaDoorIs
import Derived.Test.YtnmnlbgialolhaaDoorPb
namespace Go.Proofs.YtnmnlbgialolhaaDoor
set_option linter.unusedVariables false
set_option linter.unusedSimpArgs false
open Go.RowKit
attribute [local go_sem] Oper.semAt_some

/-! ### the source of choices -/
def SrcAt (W : World) (p : Nat) (v : Value) (m : Nat) : Prop := ∃ (a : Nat) (sd : Int), a ≤ m ∧ 0 ≤ sd ∧ sd < 18446744073709551616 ∧ W.heap[p]? = some (.cells #[v, .int .i64 (a : Int), .int .u64 sd] 139 (0, 0))

theorem SrcAt.drew {W : World} {p : Nat} {v : Value} {m : Nat} (h : SrcAt W p v m) : SrcAt W.drew p v m := h
theorem Far.drew {l r : Nat} {W W' : World} (h : Far l r W W') : Far l r W W'.drew := ⟨h.os, h.tape, h.output, h.size, h.block⟩

set_option maxHeartbeats 2000000 in
set_option maxRecDepth 100000 in
theorem next_any (p : Nat) (v : Value) (ns : List Nat) (m : Nat) (w : World) (hp : SrcAt w p v m) (hv : SlY w v ns) (hby : ∀ i, ns.getD i 0 < 256) (hN : ns.length ≤ maxLen) (hm : m ≤ 1000000) :
    Calls Tryd.prog 110 #[.pointer (some ⟨p, 0, none⟩)] w (fun e w' => (∃ r : Nat, r < 256 ∧ e = .returned (.int .i64 (r : Int))) ∧ SrcAt w' p v (m + 1) ∧ Far p (p + 1) w w') := by
  obtain ⟨a, sd, ha, hs0, hs1, hpp⟩ := hp
  unfold maxLen at hN
  have c0 : w.cell? ⟨p, 0, none⟩ = some v := by rw [Joins.cell_of_block hpp 0]; rfl
  have c1 : w.cell? ⟨p, 1, none⟩ = some (.int .i64 (a : Int)) := by rw [Joins.cell_of_block hpp 1]; rfl
  have c2 : w.cell? ⟨p, 2, none⟩ = some (.int .u64 sd) := by rw [Joins.cell_of_block hpp 2]; rfl
  have f1 : w.frozen? ⟨p, 1, none⟩ = false := Joins.unfrozen_of_block hpp 1
  have f2 : w.frozen? ⟨p, 2, none⟩ = false := Joins.unfrozen_of_block hpp 2
  have HG : Hid (∀ z : Int, SrcAt ((w.setCell ⟨p, 1, none⟩ (.int .i64 ((a : Int) + 1))).setCell ⟨p, 2, none⟩ (.int .u64 (IntKind.u64.wrap z))) p v (m + 1) ∧ Far p (p + 1) w ((w.setCell ⟨p, 1, none⟩ (.int .i64 ((a : Int) + 1))).setCell ⟨p, 2, none⟩ (.int .u64 (IntKind.u64.wrap z)))) := fun z => by
    have hwr : 0 ≤ IntKind.u64.wrap z ∧ IntKind.u64.wrap z < 18446744073709551616 := by
      simp only [IntKind.wrap, IntKind.bits, IntKind.signed]
      simp
      omega
    refine ⟨⟨a + 1, IntKind.u64.wrap z, by omega, hwr.1, hwr.2, ?_⟩, rfl, rfl, rfl, by simp [World.setCell], fun k hk hd => ?_⟩
    · exact Joins.block_setCell (Joins.block_setCell hpp (.int .i64 ((a : Int) + 1))) (.int .u64 (IntKind.u64.wrap z))
    · rw [Below.heap_setCell _ _ _ _ (by show k ≠ p; omega), Below.heap_setCell _ _ _ _ (by show k ≠ p; omega)]
  have HC : Hid (∀ z : Int, ((w.setCell ⟨p, 1, none⟩ (.int .i64 ((a : Int) + 1))).setCell ⟨p, 2, none⟩ (.int .u64 (IntKind.u64.wrap z))).cell? ⟨p, 0, none⟩ = some v ∧ ((w.setCell ⟨p, 1, none⟩ (.int .i64 ((a : Int) + 1))).setCell ⟨p, 2, none⟩ (.int .u64 (IntKind.u64.wrap z))).cell? ⟨p, 1, none⟩ = some (.int .i64 ((a : Int) + 1)) ∧ ((w.setCell ⟨p, 1, none⟩ (.int .i64 ((a : Int) + 1))).setCell ⟨p, 2, none⟩ (.int .u64 (IntKind.u64.wrap z))).cell? ⟨p, 2, none⟩ = some (.int .u64 (IntKind.u64.wrap z))) := fun z => by
    have hb : ((w.setCell ⟨p, 1, none⟩ (.int .i64 ((a : Int) + 1))).setCell ⟨p, 2, none⟩ (.int .u64 (IntKind.u64.wrap z))).heap[p]? = some (.cells #[v, .int .i64 ((a : Int) + 1), .int .u64 (IntKind.u64.wrap z)] 139 (0, 0)) := Joins.block_setCell (Joins.block_setCell hpp (.int .i64 ((a : Int) + 1))) (.int .u64 (IntKind.u64.wrap z))
    exact ⟨by rw [Joins.cell_of_block hb 0]; rfl, by rw [Joins.cell_of_block hb 1]; rfl, by rw [Joins.cell_of_block hb 2]; rfl⟩
  clear hpp
  by_cases hlt : a < ns.length
  · rcases hv with ⟨ao, cap, rfl, rfl⟩ | ⟨b, off, cap, rfl, h0, hb, hc⟩
    · cases hlt
    have hc1 := hc a hlt
    obtain ⟨x, hx⟩ : ∃ x, ns.getD a 0 = x := ⟨_, rfl⟩
    have hx2 := hby a
    rw [hx] at hc1 hx2
    obtain ⟨N, hNN⟩ : ∃ N, ns.length = N := ⟨_, rfl⟩
    rw [hNN] at hN hlt c0 HG HC
    have HNN := Lib.hid hNN
    clear hc hby hx hNN h0 hs0 hs1
    have k1 : (a : Int) < N := by omega
    have k2 : (0 : Int) ≤ a := by omega
    go_enter Tryd.func110, Tryd.ntmps110
    go_wp2
    go_region
    go_wp2
    go_region
    go_upto_region 2 with fail
    generalize IntKind.u64.wrap (sd * 6364136223846793005) + (x : Int) = z1
    generalize IntKind.u64.wrap z1 + 1442695040888963407 = z2
    obtain ⟨g0, g1, g2⟩ := HC.out z2
    obtain ⟨W2, hW2⟩ : ∃ W, (w.setCell ⟨p, 1, none⟩ (.int .i64 ((a : Int) + 1))).setCell ⟨p, 2, none⟩ (.int .u64 (IntKind.u64.wrap z2)) = W := ⟨_, rfl⟩
    have HR := Lib.hid (HG.out z2)
    rw [hW2] at g0 g1 g2 HR ⊢
    clear hW2 HC HG c0 c1 c2 f1 f2
    have k3 : (a : Int) + 1 ≤ (N : Int) := by omega
    go_region
    go_wp2
    go_ret
    rw [HNN.out]
    exact ⟨⟨x, hx2, rfl⟩, HR.out.1.drew.drew.drew, HR.out.2.drew.drew.drew⟩
  · have k1 : ¬ (a : Int) < (ns.length : Int) := by omega
    obtain ⟨ao, cap, rfl⟩ := hv.form
    obtain ⟨N, hNN⟩ : ∃ N, ns.length = N := ⟨_, rfl⟩
    rw [hNN] at hN hlt c0 HG HC k1
    have HNN := Lib.hid hNN
    clear hby hNN hs0 hs1 hv
    go_enter Tryd.func110, Tryd.ntmps110
    go_wp2
    go_region
    go_upto_region 2 with fail
    generalize IntKind.u64.wrap (IntKind.u64.wrap (sd * 6364136223846793005)) + 1442695040888963407 = z2
    obtain ⟨g0, g1, g2⟩ := HC.out z2
    obtain ⟨W2, hW2⟩ : ∃ W, (w.setCell ⟨p, 1, none⟩ (.int .i64 ((a : Int) + 1))).setCell ⟨p, 2, none⟩ (.int .u64 (IntKind.u64.wrap z2)) = W := ⟨_, rfl⟩
    have HR := Lib.hid (HG.out z2)
    have hz : 0 ≤ IntKind.u64.wrap z2 ∧ IntKind.u64.wrap z2 < 18446744073709551616 := by
      obtain ⟨a', sd', e1, e2, e3, e4⟩ := HR.out.1
      have h1 : (.int .u64 sd' : Value) = .int .u64 (IntKind.u64.wrap z2) := by
        have h2 : ((w.setCell ⟨p, 1, none⟩ (.int .i64 ((a : Int) + 1))).setCell ⟨p, 2, none⟩ (.int .u64 (IntKind.u64.wrap z2))).cell? ⟨p, 2, none⟩ = some (.int .u64 sd') := by rw [Joins.cell_of_block e4 2]; rfl
        exact Option.some.inj (h2.symm.trans g2)
      injection h1 with _ h1
      rw [← h1]
      exact ⟨e2, e3⟩
    rw [hW2] at g0 g1 g2 HR ⊢
    obtain ⟨sv, hsv⟩ : ∃ s, IntKind.u64.wrap z2 = s := ⟨_, rfl⟩
    rw [hsv] at g2 hz ⊢
    clear hW2 HC HG c0 c1 c2 f1 f2 hsv
    have k3 : ¬ (a : Int) + 1 ≤ (N : Int) := by omega
    go_region
    go_wp2
    go_ret
    rw [HNN.out]
    refine ⟨?_, HR.out.1.drew.drew, HR.out.2.drew.drew⟩
    have hd0 : 0 ≤ sv / 1099511627776 := Int.ediv_nonneg hz.1 (by omega)
    have hd1 : sv / 1099511627776 < 18446744073709551616 := by omega
    have he := u64_and (sv / 1099511627776) 255 hd0 hd1 (by omega) (by omega)
    have hl : (sv / 1099511627776).toNat &&& (255 : Int).toNat ≤ 255 := Nat.and_le_right
    refine ⟨(sv / 1099511627776).toNat &&& (255 : Int).toNat, by omega, ?_⟩
    exact ret_int (by rw [he]; unfold wrap64; omega)

/-! ### a source whose bytes lie apart from it -/
structure Src (W : World) (p : Nat) (v : Value) (ns : List Nat) (m : Nat) : Prop where
  at_ : SrcAt W p v m
  y : SlY W v ns
  sep : ∀ b off n cap, v = .slice (some ⟨b, off, none⟩) n cap → 0 < n → b < p
  by_ : ∀ i, ns.getD i 0 < 256
  len : ns.length ≤ maxLen
theorem Src.lt {W : World} {p : Nat} {v : Value} {ns : List Nat} {m : Nat} (h : Src W p v ns m) : p < W.heap.size := by
  obtain ⟨a, sd, _, _, _, hp⟩ := h.at_
  exact (Array.getElem?_eq_some_iff.1 hp).1
theorem Src.keep {W W' : World} {p : Nat} {v : Value} {ns : List Nat} {m m' : Nat} (h : Src W p v ns m) (hk : ∀ k, k < p → W'.heap[k]? = W.heap[k]?) (hs : W.heap.size ≤ W'.heap.size) (ha : SrcAt W' p v m') : Src W' p v ns m' := by
  refine ⟨ha, ?_, h.sep, h.by_, h.len⟩
  rcases h.y with ⟨ao, cap, e1, e2⟩ | ⟨b, off, cap, e1, e2, e3, e4⟩
  · exact Or.inl ⟨ao, cap, e1, e2⟩
  · have hb := h.sep b off ns.length cap e1 e2
    exact Or.inr ⟨b, off, cap, e1, e2, Nat.lt_of_lt_of_le e3 hs, fun i hi => (World.cell?_of_block (w := W) (a := ⟨b, off + i, none⟩) (hk b hb)).trans (e4 i hi)⟩
theorem Src.bel {W W' : World} {p n : Nat} {v : Value} {ns : List Nat} {m : Nat} (h : Src W p v ns m) (hb : Below n W W') (hn : p < n) : Src W' p v ns m := by
  obtain ⟨a, sd, h1, h2, h3, hp⟩ := h.at_
  exact h.keep (fun k hk => hb.block k (by omega)) hb.size ⟨a, sd, h1, h2, h3, (hb.block p hn).trans hp⟩
theorem Src.far {W W' : World} {p l r : Nat} {v : Value} {ns : List Nat} {m : Nat} (h : Src W p v ns m) (hf : Far l r W W') (hn : p < l ∨ r = 0) : Src W' p v ns m := by
  obtain ⟨a, sd, h1, h2, h3, hp⟩ := h.at_
  have hl := h.lt
  exact h.keep (fun k hk => hf.block k (by omega) (by omega)) hf.size ⟨a, sd, h1, h2, h3, (hf.block p hl (by omega)).trans hp⟩
theorem Src.more {W : World} {p : Nat} {v : Value} {ns : List Nat} {m m' : Nat} (h : Src W p v ns m) (hm : m ≤ m') : Src W p v ns m' := by
  obtain ⟨a, sd, h1, h2⟩ := h.at_
  exact ⟨⟨a, sd, by omega, h2⟩, h.y, h.sep, h.by_, h.len⟩

/-- what a draw leaves -/
def Drew (p : Nat) (v : Value) (ns : List Nat) (m : Nat) (w w' : World) : Prop := Src w' p v ns m ∧ Far p (p + 1) w w'
theorem Drew.src {p : Nat} {v : Value} {ns : List Nat} {m : Nat} {w w' : World} (h : Drew p v ns m w w') : Src w' p v ns m := h.1
theorem nextS (p : Nat) (v : Value) (ns : List Nat) (m : Nat) (w : World) (h : Src w p v ns m) (hm : m ≤ 1000000) :
    Calls Tryd.prog 110 #[.pointer (some ⟨p, 0, none⟩)] w (fun e w' => (∃ r : Nat, r < 256 ∧ e = .returned (.int .i64 (r : Int))) ∧ Drew p v ns (m + 1) w w') :=
  (next_any p v ns m w h.at_ h.y h.by_ h.len hm).mono fun e w' ⟨h1, h2, h3⟩ => ⟨h1, h.keep (fun k hk => h3.block k (by have := h.lt; omega) (Or.inl hk)) h3.size h2, h3⟩

set_option maxHeartbeats 1000000 in
theorem pick_any (p : Nat) (v : Value) (ns : List Nat) (m : Nat) (n : Int) (w : World) (h : Src w p v ns m) (hm : m ≤ 1000000) (hn : n ≤ 200) :
    Calls Tryd.prog 83 #[.pointer (some ⟨p, 0, none⟩), .int .i64 n] w (fun e w' => (∃ r : Nat, (r : Int) < max n 1 ∧ e = .returned (.int .i64 (r : Int))) ∧ Drew p v ns (m + 1) w w') := by
  by_cases h1 : n ≤ 1
  · have HR : Hid (Drew p v ns (m + 1) w w) := ⟨h.more (by omega), ⟨rfl, rfl, rfl, Nat.le_refl _, fun _ _ _ => rfl⟩⟩
    clear h
    go_enter Tryd.func83, Tryd.ntmps83
    go_wp2
    go_ret
    exact ⟨⟨0, by omega, rfl⟩, HR.out⟩
  · have C := Lib.hid (nextS p v ns m w h hm)
    clear h
    go_enter Tryd.func83, Tryd.ntmps83
    go_wp2_with fail
    refine C.out.mono ?_
    rintro e w' ⟨⟨r, hr, rfl⟩, hd⟩
    have HD := Lib.hid hd
    have hm0 : (r : Int).tmod n = (r : Int) % n := Int.tmod_eq_emod_of_nonneg (by omega)
    have h2 : 0 ≤ (r : Int) % n := Int.emod_nonneg _ (by omega)
    have h3 : (r : Int) % n < n := Int.emod_lt_of_pos _ (by omega)
    have h4 : ¬ n = 0 := by omega
    clear hd C
    go_wp2
    go_ret
    refine ⟨⟨((r : Int) % n).toNat, by omega, ?_⟩, HD.out⟩
    exact ret_int (by omega)

set_option maxHeartbeats 1000000 in
theorem one_any (p : Nat) (v : Value) (ns : List Nat) (m : Nat) (n : Int) (w : World) (h : Src w p v ns m) (hm : m ≤ 1000000) (hn : n ≤ 200) :
    Calls Tryd.prog 111 #[.pointer (some ⟨p, 0, none⟩), .int .i64 n] w (fun e w' => (∃ b : Bool, e = .returned (.bool b)) ∧ Drew p v ns (m + 1) w w') := by
  have C := Lib.hid (pick_any p v ns m n w h hm hn)
  clear h
  go_enter Tryd.func111, Tryd.ntmps111
  go_wp2_with fail
  refine C.out.mono ?_
  rintro e w' ⟨⟨r, hr, rfl⟩, hd⟩
  have HD := Lib.hid hd
  clear hd C
  go_wp2
  go_ret
  exact ⟨⟨_, rfl⟩, HD.out⟩

theorem from_any (v : Value) (ns : List Nat) (w : World) (hv : SlY w v ns) (hby : ∀ i, ns.getD i 0 < 256) (hN : ns.length ≤ maxLen) :
    Calls Tryd.prog 82 #[v] w (fun e w' => e = .returned (.pointer (some ⟨w.heap.size, 0, none⟩)) ∧ Src w' w.heap.size v ns 0 ∧ Below w.heap.size w w') := by
  have HR : Hid (Src (w.alloc (.cells #[v, .int .i64 0, .int .u64 0] 139)) w.heap.size v ns 0 ∧ Below w.heap.size w (w.alloc (.cells #[v, .int .i64 0, .int .u64 0] 139))) := by
    refine ⟨⟨⟨0, 0, Nat.le_refl _, Int.le_refl _, by decide, heap_alloc_last w _⟩, hv.below (Joins.below_alloc1 _ _), fun b off n cap e hn => ?_, hby, hN⟩, Joins.below_alloc1 _ _⟩
    rcases hv with ⟨ao, c, e1, e2⟩ | ⟨b1, o1, c1, e1, e2, e3, e4⟩
    · rw [e1] at e; injection e with _ e; omega
    · rw [e1] at e; injection e with e; injection e with e; injection e with e; omega
  obtain ⟨ao, cap, rfl⟩ := hv.form
  clear hv
  go_enter Tryd.func82, Tryd.ntmps82
  go_wp2
  go_ret
  exact ⟨rfl, HR.out.1, HR.out.2⟩
end Go.Proofs.YtnmnlbgialolhaaDoor

/- Contracts of single functions, and plain lemmas, on which the exact laws of this seat rest; each holds under the conditions that it states. -/
namespace Go.Proofs.YtnmnlbgialolhaaDoor
set_option linter.unusedVariables false
set_option linter.unusedSimpArgs false
open Go.RowKit
attribute [local go_sem] Oper.semAt_some

theorem own_farr {W W' : World} {base n s l r : Nat} {e : TypeId} {v : Value} {xs : List Value} (h : W.ownsRow base e s v n xs) (hf : Far l r W W') (hr : r ≤ base) : W'.ownsRow base e s v n xs := by
  refine ⟨h.1, ?_⟩
  rcases h.2 with h2 | ⟨g, cap, cur, hv, hb, hg, rest⟩
  · exact Or.inl h2
  · subst hv
    have h1 := (h.lt g rfl).1
    exact Or.inr ⟨g, cap, cur, rfl, hb, hf.cells hg (by omega), rest⟩
theorem Far.setCell {l r : Nat} {W W' : World} (h : Far l r W W') (b o : Nat) (x : Value) (hb : W.heap.size ≤ b) : Far l r W (W'.setCell ⟨b, o, none⟩ x) :=
  ⟨h.os, h.tape, h.output, Nat.le_trans h.size (by simp [World.setCell]), fun k hk hd => (Below.heap_setCell W' ⟨b, o, none⟩ x k (by show k ≠ b; omega)).trans (h.block k hk hd)⟩
/-- the state of a drawing: a row of bools of its own, its source, the result's variable -/
structure DrSt (w wr : World) (p : Nat) (v : Value) (ns : List Nat) (N m : Nat) (bs : List Bool) : Prop where
  own : wr.ownsRow w.heap.size 4 1 (.slice (some ⟨w.heap.size + 1, 0, none⟩) N N) N (boolV bs)
  len : bs.length = N
  src : Src wr p v ns m
  far : Far p (p + 1) w wr
  lt : p < w.heap.size
  pic : wr.heap[w.heap.size]? = some (.cells #[.slice none 0 0] 26 (0, 0))
theorem DrSt.draw {w wr w2 : World} {p : Nat} {v : Value} {ns : List Nat} {N m m' : Nat} {bs : List Bool} (h : DrSt w wr p v ns N m bs) (hd : Drew p v ns m' wr w2) : DrSt w w2 p v ns N m' bs := by
  have hl := h.lt
  exact ⟨own_farr h.own hd.2 (by omega), h.len, hd.1, h.far.trans hd.2, h.lt, hd.2.cells h.pic (by omega)⟩
theorem DrSt.set {w wr : World} {p : Nat} {v : Value} {ns : List Nat} {N m : Nat} {bs : List Bool} (h : DrSt w wr p v ns N m bs) (i : Nat) (x : Bool) : DrSt w (wr.setCell ⟨w.heap.size + 1, i, none⟩ (.bool x)) p v ns N m (bs.set i x) := by
  have h1 := (h.own.stored i (.bool x)).1
  have e : (boolV bs).set i (.bool x) = boolV (bs.set i x) := by unfold boolV; rw [List.map_set]
  rw [e] at h1
  have hs : Below (w.heap.size + 1) wr (wr.setCell ⟨w.heap.size + 1, i, none⟩ (.bool x)) := (Below.refl (w.heap.size + 1) wr).setCell (p := ⟨w.heap.size + 1, i, none⟩) (Nat.le_refl _) _
  have hl := h.lt
  exact ⟨h1, by rw [List.length_set]; exact h.len, h.src.bel hs (by omega), h.far.setCell _ _ _ (by omega), h.lt, (hs.block _ (by omega)).trans h.pic⟩
theorem DrSt.cell {w wr : World} {p : Nat} {v : Value} {ns : List Nat} {N m : Nat} {bs : List Bool} (h : DrSt w wr p v ns N m bs) (i : Nat) (hi : i < N) : ∃ u, wr.cell? ⟨w.heap.size + 1, i, none⟩ = some u ∧ wr.frozen? ⟨w.heap.size + 1, i, none⟩ = false := by
  have h1 := h.own.cellAt i (by omega)
  have hl : i < (boolV bs).length := by unfold boolV; rw [List.length_map, h.len]; exact hi
  rw [List.getElem?_eq_getElem hl] at h1
  exact ⟨_, h1, h.own.frozenAt i⟩

/-- a picture that is drawn -/
def DrewPic (w : World) (p : Nat) (v : Value) (ns : List Nat) (m wd h : Nat) (e : Ending) (w' : World) : Prop :=
  ∃ (f : Nat → Nat → Bool) (g cap : Nat), e = .returned (.agg #[.slice (some ⟨g, 0, none⟩) h cap]) ∧ OwnP w' w.heap.size (.slice (some ⟨g, 0, none⟩) h cap) (mkPic wd h f) ∧ Src w' p v ns m ∧ Far p (p + 1) w w'

set_option maxHeartbeats 8000000 in
set_option maxRecDepth 100000 in
theorem l01Draw_any (wd h p : Nat) (v : Value) (ns : List Nat) (m : Nat) (w : World) (hS : Src w p v ns m) (hw : 1 ≤ wd ∧ wd ≤ 16) (hh : 1 ≤ h ∧ h ≤ 16) (hm : m ≤ 1000) :
    Calls Tryd.prog 84 #[.pointer (some ⟨p, 0, none⟩), .int .i64 (wd : Int), .int .i64 (h : Int)] w (DrewPic w p v ns (m + 300) wd h) := by
  obtain ⟨i0, hi, hz0, hz1, hz2⟩ := info_parts Tryd.info4
  have hNle : wd * h ≤ 256 := Nat.mul_le_mul hw.2 hh.2
  have CM : Hid (∀ N (bs : List Bool) W, bs.length = N → Bools W (w.heap.size + 1) 0 bs → N = wd * h → Calls Tryd.prog 72 #[.int .i64 (wd : Int), .slice (some ⟨w.heap.size + 1, 0, none⟩) N N] W (fun e w' => ∃ g cap, e = .returned (.agg #[.slice (some ⟨g, 0, none⟩) h cap]) ∧ OwnP w' W.heap.size (.slice (some ⟨g, 0, none⟩) h cap) (mkPic wd h (fun y x => bs.getD (y * wd + x) false)) ∧ Below W.heap.size W w')) := fun N bs W h1 h2 h3 => by
    subst h3
    have := l01Make_any (w.heap.size + 1) 0 (wd * h) wd h bs W hw hh h1 h2
    unfold TookPic at this
    rw [mkPic_len] at this
    exact this
  have hc : (wd : Int) * (h : Int) = ((wd * h : Nat) : Int) := by push_cast; rfl
  obtain ⟨N, hNN⟩ : ∃ N, wd * h = N := ⟨_, rfl⟩
  rw [hNN] at hNle hc CM
  have hlt := hS.lt
  have HS := Lib.hid hS
  have hP0 : Hid ((w.alloc (.cells #[.slice none 0 0] 26)).heap[w.heap.size]? = some (.cells #[.slice none 0 0] 26 (0, 0))) := heap_alloc_last w _
  obtain ⟨hw1, hw2⟩ := hw
  obtain ⟨hh1, hh2⟩ := hh
  clear hS hNN
  go_enter Tryd.func84, Tryd.ntmps84
  go_wp2_with (at_make; refine wpList_make_full _ rfl _ _ 87 rfl w.heap.size 4 i0 (.bool false) 1 Tryd.underlying87 hi hz0 hz1 _ _ _ _ N rfl rfl rfl rfl ?c1 ?c2 (by simp) ?_)
  case c1 => rw [hz2]; omega
  case c2 => unfold maxLen; omega
  intro w1 hown hgr
  rw [toList_madeCells_one] at hown
  have hbel : Below w.heap.size w w1 := (Joins.below_alloc1 w _).grown hgr (by simp) (fun k h => by cases h)
  have hp1 : w1.heap[w.heap.size]? = some (.cells #[.slice none 0 0] 26 (0, 0)) := (hgr.block _ (by simp) (by simp)).trans hP0.out
  have hrep : boolV (List.replicate N false) = List.replicate N (.bool false) := by unfold boolV; rw [List.map_replicate]
  rw [← hrep] at hown
  have HD0 : Hid (DrSt w w1 p v ns N m (List.replicate N false)) := ⟨hown, List.length_replicate, HS.out.bel hbel hlt, ⟨hbel.os, hbel.tape, hbel.output, hbel.size, fun k hk _ => hbel.block k hk⟩, hlt, hp1⟩
  clear hgr hc hown hbel hp1 HS hP0 hrep
  go_wp2_with fail
  refine (pick_any p v ns m 5 _ HD0.out.src (by omega) (by omega)).mono ?_
  rintro e w2 ⟨⟨r, hr, rfl⟩, hd⟩
  have HD := Lib.hid (HD0.out.draw hd)
  clear hd HD0
  have hr5 : r = 0 ∨ r = 1 ∨ r = 2 ∨ r = 3 ∨ r = 4 := by omega
  clear hr
  rcases hr5 with rfl | rfl | rfl | rfl | rfl
  · go_wp2_with fail
    go_loopw [30] (fun iv wr => ∃ (k m' : Nat) (bs : List Bool), k ≤ N ∧ iv = .int .i64 (k : Int) ∧ m' ≤ m + 1 + k ∧ Hid (DrSt w wr p v ns N m' bs)) (fun iv _ => N - (intOf iv).toNat)
    case atStart => exact ⟨0, _, _, Nat.zero_le _, rfl, by omega, HD⟩
    case round =>
      clear HD
      obtain ⟨k, m', bs, hkN, rfl, hm', HD⟩ := hrel
      by_cases hlt : k < N
      · have kk : (k : Int) < (N : Int) := by omega
        go_wp2_with fail
        refine (one_any p v ns m' 2 _ HD.out.src (by omega) (by omega)).mono ?_
        rintro e w2 ⟨⟨b, rfl⟩, hd⟩
        have HD2 := Lib.hid (HD.out.draw hd)
        clear hd HD
        obtain ⟨u, hu, hf⟩ := HD2.out.cell k hlt
        have HD3 := Lib.hid (HD2.out.set k (b))
        clear HD2
        go_wp2_with fail
        go_roundw
        case rel => exact ⟨k + 1, m' + 1, _, by omega, by go_num, by omega, HD3⟩
        case measure => simp [intOf]; omega
      · obtain rfl : N = k := by omega
        go_wp2_with fail
        refine (pick_any p v ns _ 4 _ HD.out.src (by omega) (by omega)).mono ?_
        rintro e w3 ⟨⟨kc, hkc, rfl⟩, hd⟩
        have HD5 := Lib.hid (HD.out.draw hd)
        have hkc4 : kc ≤ 3 := by omega
        obtain ⟨m5, bs5, hm5, HD5⟩ : ∃ m5 bs5, m5 ≤ m + N + 3 ∧ Hid (DrSt w w3 p v ns N m5 bs5) := ⟨_, _, by omega, HD5⟩
        clear hd HD hkc
        go_wp2_with fail
        go_loopw [13] (fun kv wr => ∃ (k m' : Nat) (bs : List Bool), k ≤ 3 ∧ kv = .int .i64 (k : Int) ∧ m' ≤ m + N + 3 + 5 * (3 - k) ∧ Hid (DrSt w wr p v ns N m' bs)) (fun kv _ => (intOf kv).toNat)
        case atStart => exact ⟨kc, m5, bs5, hkc4, rfl, by omega, HD5⟩
        case round =>
          clear HD5
          obtain ⟨k, m', bs, hk3, rfl, hm', HD⟩ := hrel
          by_cases hk0 : 0 < k
          · go_wp2_with fail
            refine (pick_any p v ns m' (wd : Int) _ HD.out.src (by omega) (by omega)).mono ?_
            rintro e wa ⟨⟨x, hx, rfl⟩, hd⟩
            have HDa := Lib.hid (HD.out.draw hd)
            have hx2 : x < wd := by omega
            clear hd HD hx
            go_wp2_with fail
            refine (pick_any p v ns (m' + 1) (h : Int) _ HDa.out.src (by omega) (by omega)).mono ?_
            rintro e wb ⟨⟨y, hy, rfl⟩, hd⟩
            have HDb := Lib.hid (HDa.out.draw hd)
            have hy2 : y < h := by omega
            clear hd HDa hy
            go_wp2_with fail
            refine (pick_any p v ns (m' + 1 + 1) ((wd : Int) - (x : Int)) _ HDb.out.src (by omega) (by omega)).mono ?_
            rintro e wc ⟨⟨dx, hdx, rfl⟩, hd⟩
            have HDc := Lib.hid (HDb.out.draw hd)
            have hdx2 : dx < wd := by omega
            clear hd HDb hdx
            go_wp2_with fail
            refine (pick_any p v ns (m' + 1 + 1 + 1) ((h : Int) - (y : Int)) _ HDc.out.src (by omega) (by omega)).mono ?_
            rintro e we ⟨⟨dy, hdy, rfl⟩, hd⟩
            have HDe := Lib.hid (HDc.out.draw hd)
            have hdy2 : dy < h := by omega
            clear hd HDc hdy
            go_wp2_with fail
            refine (one_any p v ns (m' + 1 + 1 + 1 + 1) 3 _ HDe.out.src (by omega) (by omega)).mono ?_
            rintro e wf ⟨⟨bk, rfl⟩, hd⟩
            have HDf := Lib.hid (HDe.out.draw hd)
            clear hd HDe
            obtain ⟨m6, hm6, HD6⟩ : ∃ m6, m6 ≤ m + N + 3 + 5 * (3 - (k - 1)) ∧ Hid (DrSt w wf p v ns N m6 bs) := ⟨_, by omega, HDf⟩
            clear HDf
            go_wp2_with fail
            go_loopw [109] (fun iv wr => ∃ (i : Nat) (bs : List Bool), i ≤ N ∧ iv = .int .i64 (i : Int) ∧ Hid (DrSt w wr p v ns N m6 bs)) (fun iv _ => N - (intOf iv).toNat)
            case atStart => exact ⟨0, _, Nat.zero_le _, rfl, HD6⟩
            case round =>
              clear HD6
              obtain ⟨i, bs, hiN, rfl, HD⟩ := hrel
              by_cases hlt : i < N
              · have kk : (i : Int) < (N : Int) := by omega
                have kr : (i : Int).tmod (wd : Int) = ((i % wd : Nat) : Int) := by rw [Int.tmod_eq_emod_of_nonneg (by omega)]; exact (Int.natCast_emod i wd).symm
                have kq : (i : Int).tdiv (wd : Int) = ((i / wd : Nat) : Int) := by rw [Int.tdiv_eq_ediv_of_nonneg (by omega)]; exact (Int.natCast_ediv i wd).symm
                have kn : ¬ (wd : Int) = 0 := by omega
                obtain ⟨a, ha⟩ : ∃ a, i % wd = a := ⟨_, rfl⟩
                obtain ⟨c, hc⟩ : ∃ a, i / wd = a := ⟨_, rfl⟩
                rw [ha] at kr
                rw [hc] at kq
                have ha2 : a < wd := by rw [← ha]; exact Nat.mod_lt _ hw1
                have hc2 : c ≤ i := by rw [← hc]; exact Nat.div_le_self _ _
                have k1 : IntKind.i64.wrap ((c : Nat) : Int) = (c : Int) := IntWalk.i64_in _ (by omega)
                have C1 := Lib.hid (fun W => l00In_any (a : Int) (x : Int) ((x : Int) + (1 + (dx : Int)) - 1) W)
                have C2 := Lib.hid (fun W => l00In_any (c : Int) (y : Int) ((y : Int) + (1 + (dy : Int)) - 1) W)
                obtain ⟨b1, hb1⟩ : ∃ b, inB (a : Int) (x : Int) ((x : Int) + (1 + (dx : Int)) - 1) = b := ⟨_, rfl⟩
                obtain ⟨b2, hb2⟩ : ∃ b, inB (c : Int) (y : Int) ((y : Int) + (1 + (dy : Int)) - 1) = b := ⟨_, rfl⟩
                rw [hb1] at C1
                rw [hb2] at C2
                clear hb1 hb2 ha hc
                obtain ⟨u, hu, hf⟩ := HD.out.cell i hlt
                have HD3 := Lib.hid (HD.out.set i (!bk))
                go_wp2_with fail
                refine (C1.out _).mono ?_
                rintro e w' ⟨rfl, rfl⟩
                cases b1 with
                | false =>
                  go_wp2_with fail
                  go_roundw
                  case rel => exact ⟨i + 1, _, by omega, by go_num, HD⟩
                  case measure => simp [intOf]; omega
                | true =>
                  go_wp2_with fail
                  refine (C2.out _).mono ?_
                  rintro e w' ⟨rfl, rfl⟩
                  cases b2 with
                  | false =>
                    go_wp2_with fail
                    go_roundw
                    case rel => exact ⟨i + 1, _, by omega, by go_num, HD⟩
                    case measure => simp [intOf]; omega
                  | true =>
                    clear HD
                    go_wp2_with fail
                    go_roundw
                    case rel => exact ⟨i + 1, _, by omega, by go_num, HD3⟩
                    case measure => simp [intOf]; omega
              · obtain rfl : N = i := by omega
                go_wp2_with fail
                go_roundw
                case rel => exact ⟨k - 1, m6, _, by omega, by go_num, by omega, HD⟩
                case measure => simp [intOf]; omega
          · obtain rfl : k = 0 := by omega
            have HBo := Lib.hid (own_bools HD.out.own HD.out.len)
            have HLn := Lib.hid HD.out.len
            have C := Lib.hid (CM.out N bs _ HLn.out HBo.out rfl)
            go_wp2_with fail
            refine C.out.mono ?_
            rintro e w4 ⟨g, cap, rfl, hown, hb4⟩
            have hl := HD.out.lt
            have hsz := HD.out.far.size
            have hp4 := (hb4.block _ (Array.getElem?_eq_some_iff.1 HD.out.pic).1).trans HD.out.pic
            have hfr := free_of_one hp4
            have hc4 := cell_of_one hp4
            have HF := Lib.hid ((HD.out.far.trans ⟨hb4.os, hb4.tape, hb4.output, hb4.size, fun k hk _ => hb4.block k hk⟩ : Far p (p + 1) w w4).setCell w.heap.size 0 (.slice (some ⟨g, 0, none⟩) h cap) (Nat.le_refl _))
            have HSs := Lib.hid (((HD.out.src.bel hb4 HD.out.src.lt).bel ((Below.refl w.heap.size w4).setCell (p := ⟨w.heap.size, 0, none⟩) (Nat.le_refl _) (.slice (some ⟨g, 0, none⟩) h cap)) hl).more (show m' ≤ m + 300 by omega))
            have HO := Lib.hid (Joins.ownsRow_le (own_set (u := .slice (some ⟨g, 0, none⟩) h cap) hown hp4 (by decide)) hsz)
            have HPo : Hid ((w4.setCell ⟨w.heap.size, 0, none⟩ (.slice (some ⟨g, 0, none⟩) h cap)).cell? ⟨w.heap.size, 0, none⟩ = some (.slice (some ⟨g, 0, none⟩) h cap)) := cell_of_one (one_setCell hp4)
            obtain ⟨ff, hff⟩ : ∃ ff : Nat → Nat → Bool, (fun y x => bs.getD (y * wd + x) false) = ff := ⟨_, rfl⟩
            rw [hff] at HO
            clear hown hb4 hp4 hff HD hsz HBo HLn CM C
            go_wp2_with fail
            exact bodyPost_ret (v := .agg #[.slice (some ⟨g, 0, none⟩) h cap]) (by simp [results, Tryd.results84, go_sem, HPo.out]) rfl ⟨ff, g, cap, rfl, HO.out, HSs.out, HF.out⟩
  · go_wp2_with fail
    go_loopw [43] (fun iv wr => ∃ (k m' : Nat) (bs : List Bool), k ≤ N ∧ iv = .int .i64 (k : Int) ∧ m' ≤ m + 1 + k ∧ Hid (DrSt w wr p v ns N m' bs)) (fun iv _ => N - (intOf iv).toNat)
    case atStart => exact ⟨0, _, _, Nat.zero_le _, rfl, by omega, HD⟩
    case round =>
      clear HD
      obtain ⟨k, m', bs, hkN, rfl, hm', HD⟩ := hrel
      by_cases hlt : k < N
      · have kk : (k : Int) < (N : Int) := by omega
        go_wp2_with fail
        refine (one_any p v ns m' 4 _ HD.out.src (by omega) (by omega)).mono ?_
        rintro e w2 ⟨⟨b, rfl⟩, hd⟩
        have HD2 := Lib.hid (HD.out.draw hd)
        clear hd HD
        obtain ⟨u, hu, hf⟩ := HD2.out.cell k hlt
        have HD3 := Lib.hid (HD2.out.set k (b))
        clear HD2
        go_wp2_with fail
        go_roundw
        case rel => exact ⟨k + 1, m' + 1, _, by omega, by go_num, by omega, HD3⟩
        case measure => simp [intOf]; omega
      · obtain rfl : N = k := by omega
        go_wp2_with fail
        refine (pick_any p v ns _ 4 _ HD.out.src (by omega) (by omega)).mono ?_
        rintro e w3 ⟨⟨kc, hkc, rfl⟩, hd⟩
        have HD5 := Lib.hid (HD.out.draw hd)
        have hkc4 : kc ≤ 3 := by omega
        obtain ⟨m5, bs5, hm5, HD5⟩ : ∃ m5 bs5, m5 ≤ m + N + 3 ∧ Hid (DrSt w w3 p v ns N m5 bs5) := ⟨_, _, by omega, HD5⟩
        clear hd HD hkc
        go_wp2_with fail
        go_loopw [13] (fun kv wr => ∃ (k m' : Nat) (bs : List Bool), k ≤ 3 ∧ kv = .int .i64 (k : Int) ∧ m' ≤ m + N + 3 + 5 * (3 - k) ∧ Hid (DrSt w wr p v ns N m' bs)) (fun kv _ => (intOf kv).toNat)
        case atStart => exact ⟨kc, m5, bs5, hkc4, rfl, by omega, HD5⟩
        case round =>
          clear HD5
          obtain ⟨k, m', bs, hk3, rfl, hm', HD⟩ := hrel
          by_cases hk0 : 0 < k
          · go_wp2_with fail
            refine (pick_any p v ns m' (wd : Int) _ HD.out.src (by omega) (by omega)).mono ?_
            rintro e wa ⟨⟨x, hx, rfl⟩, hd⟩
            have HDa := Lib.hid (HD.out.draw hd)
            have hx2 : x < wd := by omega
            clear hd HD hx
            go_wp2_with fail
            refine (pick_any p v ns (m' + 1) (h : Int) _ HDa.out.src (by omega) (by omega)).mono ?_
            rintro e wb ⟨⟨y, hy, rfl⟩, hd⟩
            have HDb := Lib.hid (HDa.out.draw hd)
            have hy2 : y < h := by omega
            clear hd HDa hy
            go_wp2_with fail
            refine (pick_any p v ns (m' + 1 + 1) ((wd : Int) - (x : Int)) _ HDb.out.src (by omega) (by omega)).mono ?_
            rintro e wc ⟨⟨dx, hdx, rfl⟩, hd⟩
            have HDc := Lib.hid (HDb.out.draw hd)
            have hdx2 : dx < wd := by omega
            clear hd HDb hdx
            go_wp2_with fail
            refine (pick_any p v ns (m' + 1 + 1 + 1) ((h : Int) - (y : Int)) _ HDc.out.src (by omega) (by omega)).mono ?_
            rintro e we ⟨⟨dy, hdy, rfl⟩, hd⟩
            have HDe := Lib.hid (HDc.out.draw hd)
            have hdy2 : dy < h := by omega
            clear hd HDc hdy
            go_wp2_with fail
            refine (one_any p v ns (m' + 1 + 1 + 1 + 1) 3 _ HDe.out.src (by omega) (by omega)).mono ?_
            rintro e wf ⟨⟨bk, rfl⟩, hd⟩
            have HDf := Lib.hid (HDe.out.draw hd)
            clear hd HDe
            obtain ⟨m6, hm6, HD6⟩ : ∃ m6, m6 ≤ m + N + 3 + 5 * (3 - (k - 1)) ∧ Hid (DrSt w wf p v ns N m6 bs) := ⟨_, by omega, HDf⟩
            clear HDf
            go_wp2_with fail
            go_loopw [109] (fun iv wr => ∃ (i : Nat) (bs : List Bool), i ≤ N ∧ iv = .int .i64 (i : Int) ∧ Hid (DrSt w wr p v ns N m6 bs)) (fun iv _ => N - (intOf iv).toNat)
            case atStart => exact ⟨0, _, Nat.zero_le _, rfl, HD6⟩
            case round =>
              clear HD6
              obtain ⟨i, bs, hiN, rfl, HD⟩ := hrel
              by_cases hlt : i < N
              · have kk : (i : Int) < (N : Int) := by omega
                have kr : (i : Int).tmod (wd : Int) = ((i % wd : Nat) : Int) := by rw [Int.tmod_eq_emod_of_nonneg (by omega)]; exact (Int.natCast_emod i wd).symm
                have kq : (i : Int).tdiv (wd : Int) = ((i / wd : Nat) : Int) := by rw [Int.tdiv_eq_ediv_of_nonneg (by omega)]; exact (Int.natCast_ediv i wd).symm
                have kn : ¬ (wd : Int) = 0 := by omega
                obtain ⟨a, ha⟩ : ∃ a, i % wd = a := ⟨_, rfl⟩
                obtain ⟨c, hc⟩ : ∃ a, i / wd = a := ⟨_, rfl⟩
                rw [ha] at kr
                rw [hc] at kq
                have ha2 : a < wd := by rw [← ha]; exact Nat.mod_lt _ hw1
                have hc2 : c ≤ i := by rw [← hc]; exact Nat.div_le_self _ _
                have k1 : IntKind.i64.wrap ((c : Nat) : Int) = (c : Int) := IntWalk.i64_in _ (by omega)
                have C1 := Lib.hid (fun W => l00In_any (a : Int) (x : Int) ((x : Int) + (1 + (dx : Int)) - 1) W)
                have C2 := Lib.hid (fun W => l00In_any (c : Int) (y : Int) ((y : Int) + (1 + (dy : Int)) - 1) W)
                obtain ⟨b1, hb1⟩ : ∃ b, inB (a : Int) (x : Int) ((x : Int) + (1 + (dx : Int)) - 1) = b := ⟨_, rfl⟩
                obtain ⟨b2, hb2⟩ : ∃ b, inB (c : Int) (y : Int) ((y : Int) + (1 + (dy : Int)) - 1) = b := ⟨_, rfl⟩
                rw [hb1] at C1
                rw [hb2] at C2
                clear hb1 hb2 ha hc
                obtain ⟨u, hu, hf⟩ := HD.out.cell i hlt
                have HD3 := Lib.hid (HD.out.set i (!bk))
                go_wp2_with fail
                refine (C1.out _).mono ?_
                rintro e w' ⟨rfl, rfl⟩
                cases b1 with
                | false =>
                  go_wp2_with fail
                  go_roundw
                  case rel => exact ⟨i + 1, _, by omega, by go_num, HD⟩
                  case measure => simp [intOf]; omega
                | true =>
                  go_wp2_with fail
                  refine (C2.out _).mono ?_
                  rintro e w' ⟨rfl, rfl⟩
                  cases b2 with
                  | false =>
                    go_wp2_with fail
                    go_roundw
                    case rel => exact ⟨i + 1, _, by omega, by go_num, HD⟩
                    case measure => simp [intOf]; omega
                  | true =>
                    clear HD
                    go_wp2_with fail
                    go_roundw
                    case rel => exact ⟨i + 1, _, by omega, by go_num, HD3⟩
                    case measure => simp [intOf]; omega
              · obtain rfl : N = i := by omega
                go_wp2_with fail
                go_roundw
                case rel => exact ⟨k - 1, m6, _, by omega, by go_num, by omega, HD⟩
                case measure => simp [intOf]; omega
          · obtain rfl : k = 0 := by omega
            have HBo := Lib.hid (own_bools HD.out.own HD.out.len)
            have HLn := Lib.hid HD.out.len
            have C := Lib.hid (CM.out N bs _ HLn.out HBo.out rfl)
            go_wp2_with fail
            refine C.out.mono ?_
            rintro e w4 ⟨g, cap, rfl, hown, hb4⟩
            have hl := HD.out.lt
            have hsz := HD.out.far.size
            have hp4 := (hb4.block _ (Array.getElem?_eq_some_iff.1 HD.out.pic).1).trans HD.out.pic
            have hfr := free_of_one hp4
            have hc4 := cell_of_one hp4
            have HF := Lib.hid ((HD.out.far.trans ⟨hb4.os, hb4.tape, hb4.output, hb4.size, fun k hk _ => hb4.block k hk⟩ : Far p (p + 1) w w4).setCell w.heap.size 0 (.slice (some ⟨g, 0, none⟩) h cap) (Nat.le_refl _))
            have HSs := Lib.hid (((HD.out.src.bel hb4 HD.out.src.lt).bel ((Below.refl w.heap.size w4).setCell (p := ⟨w.heap.size, 0, none⟩) (Nat.le_refl _) (.slice (some ⟨g, 0, none⟩) h cap)) hl).more (show m' ≤ m + 300 by omega))
            have HO := Lib.hid (Joins.ownsRow_le (own_set (u := .slice (some ⟨g, 0, none⟩) h cap) hown hp4 (by decide)) hsz)
            have HPo : Hid ((w4.setCell ⟨w.heap.size, 0, none⟩ (.slice (some ⟨g, 0, none⟩) h cap)).cell? ⟨w.heap.size, 0, none⟩ = some (.slice (some ⟨g, 0, none⟩) h cap)) := cell_of_one (one_setCell hp4)
            obtain ⟨ff, hff⟩ : ∃ ff : Nat → Nat → Bool, (fun y x => bs.getD (y * wd + x) false) = ff := ⟨_, rfl⟩
            rw [hff] at HO
            clear hown hb4 hp4 hff HD hsz HBo HLn CM C
            go_wp2_with fail
            exact bodyPost_ret (v := .agg #[.slice (some ⟨g, 0, none⟩) h cap]) (by simp [results, Tryd.results84, go_sem, HPo.out]) rfl ⟨ff, g, cap, rfl, HO.out, HSs.out, HF.out⟩
  · go_wp2_with fail
    go_loopw [56] (fun iv wr => ∃ (k m' : Nat) (bs : List Bool), k ≤ N ∧ iv = .int .i64 (k : Int) ∧ m' ≤ m + 1 + k ∧ Hid (DrSt w wr p v ns N m' bs)) (fun iv _ => N - (intOf iv).toNat)
    case atStart => exact ⟨0, _, _, Nat.zero_le _, rfl, by omega, HD⟩
    case round =>
      clear HD
      obtain ⟨k, m', bs, hkN, rfl, hm', HD⟩ := hrel
      by_cases hlt : k < N
      · have kk : (k : Int) < (N : Int) := by omega
        go_wp2_with fail
        refine (one_any p v ns m' 5 _ HD.out.src (by omega) (by omega)).mono ?_
        rintro e w2 ⟨⟨b, rfl⟩, hd⟩
        have HD2 := Lib.hid (HD.out.draw hd)
        clear hd HD
        obtain ⟨u, hu, hf⟩ := HD2.out.cell k hlt
        have HD3 := Lib.hid (HD2.out.set k (!b))
        clear HD2
        go_wp2_with fail
        go_roundw
        case rel => exact ⟨k + 1, m' + 1, _, by omega, by go_num, by omega, HD3⟩
        case measure => simp [intOf]; omega
      · obtain rfl : N = k := by omega
        go_wp2_with fail
        refine (pick_any p v ns _ 4 _ HD.out.src (by omega) (by omega)).mono ?_
        rintro e w3 ⟨⟨kc, hkc, rfl⟩, hd⟩
        have HD5 := Lib.hid (HD.out.draw hd)
        have hkc4 : kc ≤ 3 := by omega
        obtain ⟨m5, bs5, hm5, HD5⟩ : ∃ m5 bs5, m5 ≤ m + N + 3 ∧ Hid (DrSt w w3 p v ns N m5 bs5) := ⟨_, _, by omega, HD5⟩
        clear hd HD hkc
        go_wp2_with fail
        go_loopw [13] (fun kv wr => ∃ (k m' : Nat) (bs : List Bool), k ≤ 3 ∧ kv = .int .i64 (k : Int) ∧ m' ≤ m + N + 3 + 5 * (3 - k) ∧ Hid (DrSt w wr p v ns N m' bs)) (fun kv _ => (intOf kv).toNat)
        case atStart => exact ⟨kc, m5, bs5, hkc4, rfl, by omega, HD5⟩
        case round =>
          clear HD5
          obtain ⟨k, m', bs, hk3, rfl, hm', HD⟩ := hrel
          by_cases hk0 : 0 < k
          · go_wp2_with fail
            refine (pick_any p v ns m' (wd : Int) _ HD.out.src (by omega) (by omega)).mono ?_
            rintro e wa ⟨⟨x, hx, rfl⟩, hd⟩
            have HDa := Lib.hid (HD.out.draw hd)
            have hx2 : x < wd := by omega
            clear hd HD hx
            go_wp2_with fail
            refine (pick_any p v ns (m' + 1) (h : Int) _ HDa.out.src (by omega) (by omega)).mono ?_
            rintro e wb ⟨⟨y, hy, rfl⟩, hd⟩
            have HDb := Lib.hid (HDa.out.draw hd)
            have hy2 : y < h := by omega
            clear hd HDa hy
            go_wp2_with fail
            refine (pick_any p v ns (m' + 1 + 1) ((wd : Int) - (x : Int)) _ HDb.out.src (by omega) (by omega)).mono ?_
            rintro e wc ⟨⟨dx, hdx, rfl⟩, hd⟩
            have HDc := Lib.hid (HDb.out.draw hd)
            have hdx2 : dx < wd := by omega
            clear hd HDb hdx
            go_wp2_with fail
            refine (pick_any p v ns (m' + 1 + 1 + 1) ((h : Int) - (y : Int)) _ HDc.out.src (by omega) (by omega)).mono ?_
            rintro e we ⟨⟨dy, hdy, rfl⟩, hd⟩
            have HDe := Lib.hid (HDc.out.draw hd)
            have hdy2 : dy < h := by omega
            clear hd HDc hdy
            go_wp2_with fail
            refine (one_any p v ns (m' + 1 + 1 + 1 + 1) 3 _ HDe.out.src (by omega) (by omega)).mono ?_
            rintro e wf ⟨⟨bk, rfl⟩, hd⟩
            have HDf := Lib.hid (HDe.out.draw hd)
            clear hd HDe
            obtain ⟨m6, hm6, HD6⟩ : ∃ m6, m6 ≤ m + N + 3 + 5 * (3 - (k - 1)) ∧ Hid (DrSt w wf p v ns N m6 bs) := ⟨_, by omega, HDf⟩
            clear HDf
            go_wp2_with fail
            go_loopw [109] (fun iv wr => ∃ (i : Nat) (bs : List Bool), i ≤ N ∧ iv = .int .i64 (i : Int) ∧ Hid (DrSt w wr p v ns N m6 bs)) (fun iv _ => N - (intOf iv).toNat)
            case atStart => exact ⟨0, _, Nat.zero_le _, rfl, HD6⟩
            case round =>
              clear HD6
              obtain ⟨i, bs, hiN, rfl, HD⟩ := hrel
              by_cases hlt : i < N
              · have kk : (i : Int) < (N : Int) := by omega
                have kr : (i : Int).tmod (wd : Int) = ((i % wd : Nat) : Int) := by rw [Int.tmod_eq_emod_of_nonneg (by omega)]; exact (Int.natCast_emod i wd).symm
                have kq : (i : Int).tdiv (wd : Int) = ((i / wd : Nat) : Int) := by rw [Int.tdiv_eq_ediv_of_nonneg (by omega)]; exact (Int.natCast_ediv i wd).symm
                have kn : ¬ (wd : Int) = 0 := by omega
                obtain ⟨a, ha⟩ : ∃ a, i % wd = a := ⟨_, rfl⟩
                obtain ⟨c, hc⟩ : ∃ a, i / wd = a := ⟨_, rfl⟩
                rw [ha] at kr
                rw [hc] at kq
                have ha2 : a < wd := by rw [← ha]; exact Nat.mod_lt _ hw1
                have hc2 : c ≤ i := by rw [← hc]; exact Nat.div_le_self _ _
                have k1 : IntKind.i64.wrap ((c : Nat) : Int) = (c : Int) := IntWalk.i64_in _ (by omega)
                have C1 := Lib.hid (fun W => l00In_any (a : Int) (x : Int) ((x : Int) + (1 + (dx : Int)) - 1) W)
                have C2 := Lib.hid (fun W => l00In_any (c : Int) (y : Int) ((y : Int) + (1 + (dy : Int)) - 1) W)
                obtain ⟨b1, hb1⟩ : ∃ b, inB (a : Int) (x : Int) ((x : Int) + (1 + (dx : Int)) - 1) = b := ⟨_, rfl⟩
                obtain ⟨b2, hb2⟩ : ∃ b, inB (c : Int) (y : Int) ((y : Int) + (1 + (dy : Int)) - 1) = b := ⟨_, rfl⟩
                rw [hb1] at C1
                rw [hb2] at C2
                clear hb1 hb2 ha hc
                obtain ⟨u, hu, hf⟩ := HD.out.cell i hlt
                have HD3 := Lib.hid (HD.out.set i (!bk))
                go_wp2_with fail
                refine (C1.out _).mono ?_
                rintro e w' ⟨rfl, rfl⟩
                cases b1 with
                | false =>
                  go_wp2_with fail
                  go_roundw
                  case rel => exact ⟨i + 1, _, by omega, by go_num, HD⟩
                  case measure => simp [intOf]; omega
                | true =>
                  go_wp2_with fail
                  refine (C2.out _).mono ?_
                  rintro e w' ⟨rfl, rfl⟩
                  cases b2 with
                  | false =>
                    go_wp2_with fail
                    go_roundw
                    case rel => exact ⟨i + 1, _, by omega, by go_num, HD⟩
                    case measure => simp [intOf]; omega
                  | true =>
                    clear HD
                    go_wp2_with fail
                    go_roundw
                    case rel => exact ⟨i + 1, _, by omega, by go_num, HD3⟩
                    case measure => simp [intOf]; omega
              · obtain rfl : N = i := by omega
                go_wp2_with fail
                go_roundw
                case rel => exact ⟨k - 1, m6, _, by omega, by go_num, by omega, HD⟩
                case measure => simp [intOf]; omega
          · obtain rfl : k = 0 := by omega
            have HBo := Lib.hid (own_bools HD.out.own HD.out.len)
            have HLn := Lib.hid HD.out.len
            have C := Lib.hid (CM.out N bs _ HLn.out HBo.out rfl)
            go_wp2_with fail
            refine C.out.mono ?_
            rintro e w4 ⟨g, cap, rfl, hown, hb4⟩
            have hl := HD.out.lt
            have hsz := HD.out.far.size
            have hp4 := (hb4.block _ (Array.getElem?_eq_some_iff.1 HD.out.pic).1).trans HD.out.pic
            have hfr := free_of_one hp4
            have hc4 := cell_of_one hp4
            have HF := Lib.hid ((HD.out.far.trans ⟨hb4.os, hb4.tape, hb4.output, hb4.size, fun k hk _ => hb4.block k hk⟩ : Far p (p + 1) w w4).setCell w.heap.size 0 (.slice (some ⟨g, 0, none⟩) h cap) (Nat.le_refl _))
            have HSs := Lib.hid (((HD.out.src.bel hb4 HD.out.src.lt).bel ((Below.refl w.heap.size w4).setCell (p := ⟨w.heap.size, 0, none⟩) (Nat.le_refl _) (.slice (some ⟨g, 0, none⟩) h cap)) hl).more (show m' ≤ m + 300 by omega))
            have HO := Lib.hid (Joins.ownsRow_le (own_set (u := .slice (some ⟨g, 0, none⟩) h cap) hown hp4 (by decide)) hsz)
            have HPo : Hid ((w4.setCell ⟨w.heap.size, 0, none⟩ (.slice (some ⟨g, 0, none⟩) h cap)).cell? ⟨w.heap.size, 0, none⟩ = some (.slice (some ⟨g, 0, none⟩) h cap)) := cell_of_one (one_setCell hp4)
            obtain ⟨ff, hff⟩ : ∃ ff : Nat → Nat → Bool, (fun y x => bs.getD (y * wd + x) false) = ff := ⟨_, rfl⟩
            rw [hff] at HO
            clear hown hb4 hp4 hff HD hsz HBo HLn CM C
            go_wp2_with fail
            exact bodyPost_ret (v := .agg #[.slice (some ⟨g, 0, none⟩) h cap]) (by simp [results, Tryd.results84, go_sem, HPo.out]) rfl ⟨ff, g, cap, rfl, HO.out, HSs.out, HF.out⟩
  · go_wp2_with fail
    refine (one_any p v ns (m + 1) 2 _ HD.out.src (by omega) (by omega)).mono ?_
    rintro e w9 ⟨⟨b, rfl⟩, hd⟩
    have HD9 := Lib.hid (HD.out.draw hd)
    clear hd HD
    have HD := HD9
    clear HD9
    go_wp2_with fail
    go_loopw [72] (fun iv wr => ∃ (k m' : Nat) (bs : List Bool), k ≤ N ∧ iv = .int .i64 (k : Int) ∧ m' ≤ m + 2 + k ∧ Hid (DrSt w wr p v ns N m' bs)) (fun iv _ => N - (intOf iv).toNat)
    case atStart => exact ⟨0, _, _, Nat.zero_le _, rfl, by omega, HD⟩
    case round =>
      clear HD
      obtain ⟨k, m', bs, hkN, rfl, hm', HD⟩ := hrel
      by_cases hlt : k < N
      · have kk : (k : Int) < (N : Int) := by omega
        obtain ⟨u, hu, hf⟩ := HD.out.cell k hlt
        have HD3 := Lib.hid (HD.out.set k (b))
        clear HD
        go_wp2_with fail
        go_roundw
        case rel => exact ⟨k + 1, m', _, by omega, by go_num, by omega, HD3⟩
        case measure => simp [intOf]; omega
      · obtain rfl : N = k := by omega
        go_wp2_with fail
        refine (pick_any p v ns _ 4 _ HD.out.src (by omega) (by omega)).mono ?_
        rintro e w3 ⟨⟨kc, hkc, rfl⟩, hd⟩
        have HD5 := Lib.hid (HD.out.draw hd)
        have hkc4 : kc ≤ 3 := by omega
        obtain ⟨m5, bs5, hm5, HD5⟩ : ∃ m5 bs5, m5 ≤ m + N + 3 ∧ Hid (DrSt w w3 p v ns N m5 bs5) := ⟨_, _, by omega, HD5⟩
        clear hd HD hkc
        go_wp2_with fail
        go_loopw [13] (fun kv wr => ∃ (k m' : Nat) (bs : List Bool), k ≤ 3 ∧ kv = .int .i64 (k : Int) ∧ m' ≤ m + N + 3 + 5 * (3 - k) ∧ Hid (DrSt w wr p v ns N m' bs)) (fun kv _ => (intOf kv).toNat)
        case atStart => exact ⟨kc, m5, bs5, hkc4, rfl, by omega, HD5⟩
        case round =>
          clear HD5
          obtain ⟨k, m', bs, hk3, rfl, hm', HD⟩ := hrel
          by_cases hk0 : 0 < k
          · go_wp2_with fail
            refine (pick_any p v ns m' (wd : Int) _ HD.out.src (by omega) (by omega)).mono ?_
            rintro e wa ⟨⟨x, hx, rfl⟩, hd⟩
            have HDa := Lib.hid (HD.out.draw hd)
            have hx2 : x < wd := by omega
            clear hd HD hx
            go_wp2_with fail
            refine (pick_any p v ns (m' + 1) (h : Int) _ HDa.out.src (by omega) (by omega)).mono ?_
            rintro e wb ⟨⟨y, hy, rfl⟩, hd⟩
            have HDb := Lib.hid (HDa.out.draw hd)
            have hy2 : y < h := by omega
            clear hd HDa hy
            go_wp2_with fail
            refine (pick_any p v ns (m' + 1 + 1) ((wd : Int) - (x : Int)) _ HDb.out.src (by omega) (by omega)).mono ?_
            rintro e wc ⟨⟨dx, hdx, rfl⟩, hd⟩
            have HDc := Lib.hid (HDb.out.draw hd)
            have hdx2 : dx < wd := by omega
            clear hd HDb hdx
            go_wp2_with fail
            refine (pick_any p v ns (m' + 1 + 1 + 1) ((h : Int) - (y : Int)) _ HDc.out.src (by omega) (by omega)).mono ?_
            rintro e we ⟨⟨dy, hdy, rfl⟩, hd⟩
            have HDe := Lib.hid (HDc.out.draw hd)
            have hdy2 : dy < h := by omega
            clear hd HDc hdy
            go_wp2_with fail
            refine (one_any p v ns (m' + 1 + 1 + 1 + 1) 3 _ HDe.out.src (by omega) (by omega)).mono ?_
            rintro e wf ⟨⟨bk, rfl⟩, hd⟩
            have HDf := Lib.hid (HDe.out.draw hd)
            clear hd HDe
            obtain ⟨m6, hm6, HD6⟩ : ∃ m6, m6 ≤ m + N + 3 + 5 * (3 - (k - 1)) ∧ Hid (DrSt w wf p v ns N m6 bs) := ⟨_, by omega, HDf⟩
            clear HDf
            go_wp2_with fail
            go_loopw [109] (fun iv wr => ∃ (i : Nat) (bs : List Bool), i ≤ N ∧ iv = .int .i64 (i : Int) ∧ Hid (DrSt w wr p v ns N m6 bs)) (fun iv _ => N - (intOf iv).toNat)
            case atStart => exact ⟨0, _, Nat.zero_le _, rfl, HD6⟩
            case round =>
              clear HD6
              obtain ⟨i, bs, hiN, rfl, HD⟩ := hrel
              by_cases hlt : i < N
              · have kk : (i : Int) < (N : Int) := by omega
                have kr : (i : Int).tmod (wd : Int) = ((i % wd : Nat) : Int) := by rw [Int.tmod_eq_emod_of_nonneg (by omega)]; exact (Int.natCast_emod i wd).symm
                have kq : (i : Int).tdiv (wd : Int) = ((i / wd : Nat) : Int) := by rw [Int.tdiv_eq_ediv_of_nonneg (by omega)]; exact (Int.natCast_ediv i wd).symm
                have kn : ¬ (wd : Int) = 0 := by omega
                obtain ⟨a, ha⟩ : ∃ a, i % wd = a := ⟨_, rfl⟩
                obtain ⟨c, hc⟩ : ∃ a, i / wd = a := ⟨_, rfl⟩
                rw [ha] at kr
                rw [hc] at kq
                have ha2 : a < wd := by rw [← ha]; exact Nat.mod_lt _ hw1
                have hc2 : c ≤ i := by rw [← hc]; exact Nat.div_le_self _ _
                have k1 : IntKind.i64.wrap ((c : Nat) : Int) = (c : Int) := IntWalk.i64_in _ (by omega)
                have C1 := Lib.hid (fun W => l00In_any (a : Int) (x : Int) ((x : Int) + (1 + (dx : Int)) - 1) W)
                have C2 := Lib.hid (fun W => l00In_any (c : Int) (y : Int) ((y : Int) + (1 + (dy : Int)) - 1) W)
                obtain ⟨b1, hb1⟩ : ∃ b, inB (a : Int) (x : Int) ((x : Int) + (1 + (dx : Int)) - 1) = b := ⟨_, rfl⟩
                obtain ⟨b2, hb2⟩ : ∃ b, inB (c : Int) (y : Int) ((y : Int) + (1 + (dy : Int)) - 1) = b := ⟨_, rfl⟩
                rw [hb1] at C1
                rw [hb2] at C2
                clear hb1 hb2 ha hc
                obtain ⟨u, hu, hf⟩ := HD.out.cell i hlt
                have HD3 := Lib.hid (HD.out.set i (!bk))
                go_wp2_with fail
                refine (C1.out _).mono ?_
                rintro e w' ⟨rfl, rfl⟩
                cases b1 with
                | false =>
                  go_wp2_with fail
                  go_roundw
                  case rel => exact ⟨i + 1, _, by omega, by go_num, HD⟩
                  case measure => simp [intOf]; omega
                | true =>
                  go_wp2_with fail
                  refine (C2.out _).mono ?_
                  rintro e w' ⟨rfl, rfl⟩
                  cases b2 with
                  | false =>
                    go_wp2_with fail
                    go_roundw
                    case rel => exact ⟨i + 1, _, by omega, by go_num, HD⟩
                    case measure => simp [intOf]; omega
                  | true =>
                    clear HD
                    go_wp2_with fail
                    go_roundw
                    case rel => exact ⟨i + 1, _, by omega, by go_num, HD3⟩
                    case measure => simp [intOf]; omega
              · obtain rfl : N = i := by omega
                go_wp2_with fail
                go_roundw
                case rel => exact ⟨k - 1, m6, _, by omega, by go_num, by omega, HD⟩
                case measure => simp [intOf]; omega
          · obtain rfl : k = 0 := by omega
            have HBo := Lib.hid (own_bools HD.out.own HD.out.len)
            have HLn := Lib.hid HD.out.len
            have C := Lib.hid (CM.out N bs _ HLn.out HBo.out rfl)
            go_wp2_with fail
            refine C.out.mono ?_
            rintro e w4 ⟨g, cap, rfl, hown, hb4⟩
            have hl := HD.out.lt
            have hsz := HD.out.far.size
            have hp4 := (hb4.block _ (Array.getElem?_eq_some_iff.1 HD.out.pic).1).trans HD.out.pic
            have hfr := free_of_one hp4
            have hc4 := cell_of_one hp4
            have HF := Lib.hid ((HD.out.far.trans ⟨hb4.os, hb4.tape, hb4.output, hb4.size, fun k hk _ => hb4.block k hk⟩ : Far p (p + 1) w w4).setCell w.heap.size 0 (.slice (some ⟨g, 0, none⟩) h cap) (Nat.le_refl _))
            have HSs := Lib.hid (((HD.out.src.bel hb4 HD.out.src.lt).bel ((Below.refl w.heap.size w4).setCell (p := ⟨w.heap.size, 0, none⟩) (Nat.le_refl _) (.slice (some ⟨g, 0, none⟩) h cap)) hl).more (show m' ≤ m + 300 by omega))
            have HO := Lib.hid (Joins.ownsRow_le (own_set (u := .slice (some ⟨g, 0, none⟩) h cap) hown hp4 (by decide)) hsz)
            have HPo : Hid ((w4.setCell ⟨w.heap.size, 0, none⟩ (.slice (some ⟨g, 0, none⟩) h cap)).cell? ⟨w.heap.size, 0, none⟩ = some (.slice (some ⟨g, 0, none⟩) h cap)) := cell_of_one (one_setCell hp4)
            obtain ⟨ff, hff⟩ : ∃ ff : Nat → Nat → Bool, (fun y x => bs.getD (y * wd + x) false) = ff := ⟨_, rfl⟩
            rw [hff] at HO
            clear hown hb4 hp4 hff HD hsz HBo HLn CM C
            go_wp2_with fail
            exact bodyPost_ret (v := .agg #[.slice (some ⟨g, 0, none⟩) h cap]) (by simp [results, Tryd.results84, go_sem, HPo.out]) rfl ⟨ff, g, cap, rfl, HO.out, HSs.out, HF.out⟩
  · go_wp2_with fail
    refine (pick_any p v ns _ 4 _ HD.out.src (by omega) (by omega)).mono ?_
    rintro e w3 ⟨⟨kc, hkc, rfl⟩, hd⟩
    have HD5 := Lib.hid (HD.out.draw hd)
    have hkc4 : kc ≤ 3 := by omega
    obtain ⟨m5, bs5, hm5, HD5⟩ : ∃ m5 bs5, m5 ≤ m + N + 3 ∧ Hid (DrSt w w3 p v ns N m5 bs5) := ⟨_, _, by omega, HD5⟩
    clear hd HD hkc
    go_wp2_with fail
    go_loopw [13] (fun kv wr => ∃ (k m' : Nat) (bs : List Bool), k ≤ 3 ∧ kv = .int .i64 (k : Int) ∧ m' ≤ m + N + 3 + 5 * (3 - k) ∧ Hid (DrSt w wr p v ns N m' bs)) (fun kv _ => (intOf kv).toNat)
    case atStart => exact ⟨kc, m5, bs5, hkc4, rfl, by omega, HD5⟩
    case round =>
      clear HD5
      obtain ⟨k, m', bs, hk3, rfl, hm', HD⟩ := hrel
      by_cases hk0 : 0 < k
      · go_wp2_with fail
        refine (pick_any p v ns m' (wd : Int) _ HD.out.src (by omega) (by omega)).mono ?_
        rintro e wa ⟨⟨x, hx, rfl⟩, hd⟩
        have HDa := Lib.hid (HD.out.draw hd)
        have hx2 : x < wd := by omega
        clear hd HD hx
        go_wp2_with fail
        refine (pick_any p v ns (m' + 1) (h : Int) _ HDa.out.src (by omega) (by omega)).mono ?_
        rintro e wb ⟨⟨y, hy, rfl⟩, hd⟩
        have HDb := Lib.hid (HDa.out.draw hd)
        have hy2 : y < h := by omega
        clear hd HDa hy
        go_wp2_with fail
        refine (pick_any p v ns (m' + 1 + 1) ((wd : Int) - (x : Int)) _ HDb.out.src (by omega) (by omega)).mono ?_
        rintro e wc ⟨⟨dx, hdx, rfl⟩, hd⟩
        have HDc := Lib.hid (HDb.out.draw hd)
        have hdx2 : dx < wd := by omega
        clear hd HDb hdx
        go_wp2_with fail
        refine (pick_any p v ns (m' + 1 + 1 + 1) ((h : Int) - (y : Int)) _ HDc.out.src (by omega) (by omega)).mono ?_
        rintro e we ⟨⟨dy, hdy, rfl⟩, hd⟩
        have HDe := Lib.hid (HDc.out.draw hd)
        have hdy2 : dy < h := by omega
        clear hd HDc hdy
        go_wp2_with fail
        refine (one_any p v ns (m' + 1 + 1 + 1 + 1) 3 _ HDe.out.src (by omega) (by omega)).mono ?_
        rintro e wf ⟨⟨bk, rfl⟩, hd⟩
        have HDf := Lib.hid (HDe.out.draw hd)
        clear hd HDe
        obtain ⟨m6, hm6, HD6⟩ : ∃ m6, m6 ≤ m + N + 3 + 5 * (3 - (k - 1)) ∧ Hid (DrSt w wf p v ns N m6 bs) := ⟨_, by omega, HDf⟩
        clear HDf
        go_wp2_with fail
        go_loopw [109] (fun iv wr => ∃ (i : Nat) (bs : List Bool), i ≤ N ∧ iv = .int .i64 (i : Int) ∧ Hid (DrSt w wr p v ns N m6 bs)) (fun iv _ => N - (intOf iv).toNat)
        case atStart => exact ⟨0, _, Nat.zero_le _, rfl, HD6⟩
        case round =>
          clear HD6
          obtain ⟨i, bs, hiN, rfl, HD⟩ := hrel
          by_cases hlt : i < N
          · have kk : (i : Int) < (N : Int) := by omega
            have kr : (i : Int).tmod (wd : Int) = ((i % wd : Nat) : Int) := by rw [Int.tmod_eq_emod_of_nonneg (by omega)]; exact (Int.natCast_emod i wd).symm
            have kq : (i : Int).tdiv (wd : Int) = ((i / wd : Nat) : Int) := by rw [Int.tdiv_eq_ediv_of_nonneg (by omega)]; exact (Int.natCast_ediv i wd).symm
            have kn : ¬ (wd : Int) = 0 := by omega
            obtain ⟨a, ha⟩ : ∃ a, i % wd = a := ⟨_, rfl⟩
            obtain ⟨c, hc⟩ : ∃ a, i / wd = a := ⟨_, rfl⟩
            rw [ha] at kr
            rw [hc] at kq
            have ha2 : a < wd := by rw [← ha]; exact Nat.mod_lt _ hw1
            have hc2 : c ≤ i := by rw [← hc]; exact Nat.div_le_self _ _
            have k1 : IntKind.i64.wrap ((c : Nat) : Int) = (c : Int) := IntWalk.i64_in _ (by omega)
            have C1 := Lib.hid (fun W => l00In_any (a : Int) (x : Int) ((x : Int) + (1 + (dx : Int)) - 1) W)
            have C2 := Lib.hid (fun W => l00In_any (c : Int) (y : Int) ((y : Int) + (1 + (dy : Int)) - 1) W)
            obtain ⟨b1, hb1⟩ : ∃ b, inB (a : Int) (x : Int) ((x : Int) + (1 + (dx : Int)) - 1) = b := ⟨_, rfl⟩
            obtain ⟨b2, hb2⟩ : ∃ b, inB (c : Int) (y : Int) ((y : Int) + (1 + (dy : Int)) - 1) = b := ⟨_, rfl⟩
            rw [hb1] at C1
            rw [hb2] at C2
            clear hb1 hb2 ha hc
            obtain ⟨u, hu, hf⟩ := HD.out.cell i hlt
            have HD3 := Lib.hid (HD.out.set i (!bk))
            go_wp2_with fail
            refine (C1.out _).mono ?_
            rintro e w' ⟨rfl, rfl⟩
            cases b1 with
            | false =>
              go_wp2_with fail
              go_roundw
              case rel => exact ⟨i + 1, _, by omega, by go_num, HD⟩
              case measure => simp [intOf]; omega
            | true =>
              go_wp2_with fail
              refine (C2.out _).mono ?_
              rintro e w' ⟨rfl, rfl⟩
              cases b2 with
              | false =>
                go_wp2_with fail
                go_roundw
                case rel => exact ⟨i + 1, _, by omega, by go_num, HD⟩
                case measure => simp [intOf]; omega
              | true =>
                clear HD
                go_wp2_with fail
                go_roundw
                case rel => exact ⟨i + 1, _, by omega, by go_num, HD3⟩
                case measure => simp [intOf]; omega
          · obtain rfl : N = i := by omega
            go_wp2_with fail
            go_roundw
            case rel => exact ⟨k - 1, m6, _, by omega, by go_num, by omega, HD⟩
            case measure => simp [intOf]; omega
      · obtain rfl : k = 0 := by omega
        have HBo := Lib.hid (own_bools HD.out.own HD.out.len)
        have HLn := Lib.hid HD.out.len
        have C := Lib.hid (CM.out N bs _ HLn.out HBo.out rfl)
        go_wp2_with fail
        refine C.out.mono ?_
        rintro e w4 ⟨g, cap, rfl, hown, hb4⟩
        have hl := HD.out.lt
        have hsz := HD.out.far.size
        have hp4 := (hb4.block _ (Array.getElem?_eq_some_iff.1 HD.out.pic).1).trans HD.out.pic
        have hfr := free_of_one hp4
        have hc4 := cell_of_one hp4
        have HF := Lib.hid ((HD.out.far.trans ⟨hb4.os, hb4.tape, hb4.output, hb4.size, fun k hk _ => hb4.block k hk⟩ : Far p (p + 1) w w4).setCell w.heap.size 0 (.slice (some ⟨g, 0, none⟩) h cap) (Nat.le_refl _))
        have HSs := Lib.hid (((HD.out.src.bel hb4 HD.out.src.lt).bel ((Below.refl w.heap.size w4).setCell (p := ⟨w.heap.size, 0, none⟩) (Nat.le_refl _) (.slice (some ⟨g, 0, none⟩) h cap)) hl).more (show m' ≤ m + 300 by omega))
        have HO := Lib.hid (Joins.ownsRow_le (own_set (u := .slice (some ⟨g, 0, none⟩) h cap) hown hp4 (by decide)) hsz)
        have HPo : Hid ((w4.setCell ⟨w.heap.size, 0, none⟩ (.slice (some ⟨g, 0, none⟩) h cap)).cell? ⟨w.heap.size, 0, none⟩ = some (.slice (some ⟨g, 0, none⟩) h cap)) := cell_of_one (one_setCell hp4)
        obtain ⟨ff, hff⟩ : ∃ ff : Nat → Nat → Bool, (fun y x => bs.getD (y * wd + x) false) = ff := ⟨_, rfl⟩
        rw [hff] at HO
        clear hown hb4 hp4 hff HD hsz HBo HLn CM C
        go_wp2_with fail
        exact bodyPost_ret (v := .agg #[.slice (some ⟨g, 0, none⟩) h cap]) (by simp [results, Tryd.results84, go_sem, HPo.out]) rfl ⟨ff, g, cap, rfl, HO.out, HSs.out, HF.out⟩
end Go.Proofs.YtnmnlbgialolhaaDoor
