/- Contracts of single functions, and plain lemmas, on which the exact laws of this seat rest; each holds under the conditions that it states. -/
import Derived.Test.YthblhibkbcmbaaaDoorKG
import Derived.Test.YthblhibkbcmbaaaDoorKC
import Derived.Test.YthblhibkbcmbaaaDoorPb
import Derived.Test.YthblhibkbcmbaaaDoorGA
import Derived.Test.YthblhibkbcmbaaaDoorV5
namespace Go.Proofs.YthblhibkbcmbaaaDoor
set_option linter.unusedVariables false
set_option linter.unusedSimpArgs false
open Go.RowKit
attribute [local go_sem] Oper.semAt_some

theorem pf_no {c n : Int} {rs : List Int} (h : pfOk c n rs = false) : pfV c n rs = [] := by unfold pfV; rw [if_neg (by rw [h]; decide)]

set_option maxHeartbeats 4000000 in
set_option maxRecDepth 100000 in
theorem spec_PF (c n : Int) (v : Value) (rs : List Int) (w : World) (hl : rs.length ≤ 1048576) (hv : SlN w v rs) :
    Calls Tryd.prog 15 #[.int .i64 c, .int .i64 n, v] w (SaysPic (pfV c n rs) (pfOk c n rs) w) := by
  have CA := Lib.hid (fun W => l08Ask_any c n W)
  have hp6 := heap_alloc_last w (.cells #[.slice none 0 0] 29)
  have hb6 := Joins.below_alloc1 w (.cells #[.slice none 0 0] 29)
  have hfr : (w.alloc (.cells #[.slice none 0 0] 29)).frozen? ⟨w.heap.size, 0, none⟩ = false := free_of_one hp6
  have hc2 : (w.alloc (.cells #[.slice none 0 0] 29)).cell? ⟨w.heap.size, 0, none⟩ = some (.slice none 0 0) := cell_of_one hp6
  have P0 := Lib.hid hp6
  have B0 := Lib.hid hb6
  cases ht : (inB c 0 3 && inB n 0 4) with
  | false =>
    rw [ht] at CA
    have e1 : pfOk c n rs = false := by unfold pfOk; rw [ht]; rfl
    rw [e1, pf_no e1]
    clear ht hp6 hb6 e1 hv
    go_enter Tryd.func15, Tryd.ntmps15
    go_wp2_with fail
    refine (CA.out _).mono ?_
    rintro e w1 ⟨rfl, rfl⟩
    go_wp2_with fail
    refine bodyPost_ret (v := .tuple #[.agg #[.slice none 0 0], .bool false]) (by simp [results, Tryd.results15, go_sem, cell_of_one P0.out]) rfl ⟨_, _, _, rfl, World.ownsRow_nil _ _ _ _, B0.out⟩
  | true =>
    by_cases h257 : rs.length ≤ 257
    · obtain ⟨c', n', rfl, rfl, hc4, hn4⟩ := tour_nat ht
      exact spec_Paint c' n' v rs w hc4 hn4 h257 hv
    · rw [ht] at CA
      have e1 : pfOk c n rs = false := by cases h : pfOk c n rs with | false => rfl | true => exact absurd (pf_len h) h257
      rw [e1, pf_no e1]
      obtain ⟨ao, cap, rfl⟩ := hv.form
      obtain ⟨m, hm⟩ : ∃ m, rs.length = m := ⟨_, rfl⟩
      rw [hm] at h257 hl ⊢
      have k257 : (257 : Int) < (m : Int) := by omega
      clear ht hp6 hb6 e1 hv hm
      go_enter Tryd.func15, Tryd.ntmps15
      go_wp2_with fail
      refine (CA.out _).mono ?_
      rintro e w1 ⟨rfl, rfl⟩
      go_wp2_with fail
      refine bodyPost_ret (v := .tuple #[.agg #[.slice none 0 0], .bool false]) (by simp [results, Tryd.results15, go_sem, cell_of_one P0.out]) rfl ⟨_, _, _, rfl, World.ownsRow_nil _ _ _ _, B0.out⟩

set_option maxHeartbeats 4000000 in
set_option maxRecDepth 100000 in
theorem impl_PF (c n : Int) (v : Value) (rs : List Int) (w : World) (hl : rs.length ≤ 1048576) (hv : SlN w v rs) (hn : NoRes w) (hQ : QvP w) :
    Calls Tryd.prog 17 #[.int .i64 c, .int .i64 n, v] w (SaysPic (pfV c n rs) (pfOk c n rs) w) := by
  obtain ⟨ao, vcap, rfl⟩ := hv.form
  have hmf : ∀ (fn : Fn) (first cap : Array Value) (w : World), (Instr.makeFunc fn first cap).run Tryd.prog w = .ok (.func fn first cap) w := fun _ _ _ _ => rfl
  obtain ⟨W1, hW1⟩ : ∃ W1, ((w.alloc (.cells #[.int .i64 c] 2)).alloc (.cells #[.int .i64 n] 2)) = W1 := ⟨_, rfl⟩
  have hs1 : W1.heap.size = w.heap.size + 1 + 1 := by rw [← hW1]; simp
  have hb1 : Below w.heap.size w W1 := by rw [← hW1]; exact Joins.below_alloc2 _ _ _
  have p0 : W1.heap[w.heap.size]? = some (.cells #[.int .i64 c] 2 (0, 0)) := by
    rw [← hW1, Below.heap_alloc _ _ _ (by simp)]; exact heap_alloc_last w _
  have p1 : W1.heap[w.heap.size + 1]? = some (.cells #[.int .i64 n] 2 (0, 0)) := by
    rw [← hW1]
    exact heap_alloc2_new _ _ _
  obtain ⟨W0, hW0⟩ : ∃ W0, ((W1.alloc (.cells #[.slice ao rs.length vcap] 26)).alloc (.cells #[.slice none 0 0] 29)) = W0 := ⟨_, rfl⟩
  have hb2 : Below W1.heap.size W1 W0 := by rw [← hW0]; exact Joins.below_alloc2 _ _ _
  have hs0 : W0.heap.size = w.heap.size + 1 + 1 + 1 + 1 := by rw [← hW0]; simp [hs1]
  have p2 : W0.heap[w.heap.size + 1 + 1]? = some (.cells #[.slice ao rs.length vcap] 26 (0, 0)) := by
    rw [← hW0, Below.heap_alloc _ _ _ (by simp [hs1]), ← hs1]; exact heap_alloc_last W1 _
  have p3 : W0.heap[w.heap.size + 1 + 1 + 1]? = some (.cells #[.slice none 0 0] 29 (0, 0)) := by
    rw [← hW0, ← hs1]
    exact heap_alloc2_new _ _ _
  have q0 := cell_kept hb2 (cell_of_one p0)
  have q1 := cell_kept hb2 (cell_of_one p1)
  have q2 := cell_of_one p2
  have hb0 : Below w.heap.size w W0 := hb1.trans (hb2.mono hb1.size)
  rw [← hW1] at hW0
  have HW := Lib.hid hW0
  have HB0 := Lib.hid hb0
  have KR : Hid (∀ W, Below W0.heap.size W0 W → W.heap[w.heap.size + 1 + 1 + 1]? = some (.cells #[.slice none 0 0] 29 (0, 0))) := fun W hb => (hb.block _ (by omega)).trans p3
  cases hok : pfOk c n rs with
  | false =>
    have e1 := Lib.hid (pf_no hok)
    have C := Lib.hid (attemptPi_no 48 #[.pointer (some ⟨w.heap.size, 0, none⟩), .pointer (some ⟨w.heap.size + 1, 0, none⟩), .pointer (some ⟨w.heap.size + 1 + 1, 0, none⟩)] W0 call_PF1 (fun W hb => pfWork_no w.heap.size (w.heap.size + 1) (w.heap.size + 1 + 1) c n _ rs W ((hQ.below hb0).below hb) ((hn.below hb0).below hb) hl ((hv.below hb0).below hb) (cell_kept hb q0) (cell_kept hb q1) (cell_kept hb q2) hok))
    rw [e1.out]
    clear hv hn hQ hok e1 p0 p1 p2 p3 q0 q1 q2 hb0 hb1 hb2 hW0 hW1 hs0 hs1
    go_enter Tryd.func17, Tryd.ntmps17
    go_upto_region 1 with fail
    rw [HW.out]
    go_wp2_with fail
    refine C.out.mono ?_
    rintro e w1 ⟨rfl, hb1⟩
    have hp1 := KR.out _ hb1
    have hfr : w1.frozen? ⟨w.heap.size + 1 + 1 + 1, 0, none⟩ = false := free_of_one hp1
    have hc2 : w1.cell? ⟨w.heap.size + 1 + 1 + 1, 0, none⟩ = some (.slice none 0 0) := cell_of_one hp1
    have B1 : Hid (Below w.heap.size w w1) := HB0.out.trans (hb1.mono HB0.out.size)
    have P1 := Lib.hid hp1
    clear hb1 hp1
    go_wp2_with fail
    refine bodyPost_ret (v := .tuple #[.agg #[.slice none 0 0], .bool false]) (by simp [results, Tryd.results17, go_sem, cell_of_one (one_setCell P1.out)]) rfl ⟨_, _, _, rfl, World.ownsRow_nil _ _ _ _, B1.out.setCell (by show w.heap.size ≤ w.heap.size + 1 + 1 + 1; omega) _⟩
  | true =>
    have hwork : ∀ W, Below W0.heap.size W0 W → Calls Tryd.prog 48 #[.pointer (some ⟨w.heap.size, 0, none⟩), .pointer (some ⟨w.heap.size + 1, 0, none⟩), .pointer (some ⟨w.heap.size + 1 + 1, 0, none⟩)] W (fun e w' => ∃ (ao : Option Addr) (k cap : Nat), e = .returned (.agg #[.slice ao k cap]) ∧ (∀ ao' k' cap', Value.agg #[.slice ao k cap] = .agg #[.slice ao' k' cap'] → OwnP w' W.heap.size (.slice ao' k' cap') (pfV c n rs)) ∧ Below W.heap.size W w') := fun W hb => by
      have ht : (inB c 0 3 && inB n 0 4) = true := by cases h : (inB c 0 3 && inB n 0 4) with | true => rfl | false => unfold pfOk at hok; rw [h] at hok; cases hok
      have hV : pfV c n rs = mkPic (2 ^ n.toNat) (2 ^ n.toNat) (pfG c n rs) := by unfold pfV; rw [if_pos hok]
      obtain ⟨c', n', rfl, rfl, hc4, hn4⟩ := tour_nat ht
      rw [hV]
      unfold pfOk pfN pfG at hok
      rw [ht, Bool.true_and, Bool.and_eq_true] at hok
      unfold pfG
      simp only [Int.toNat_natCast] at hok ⊢
      refine (pfWork_yes w.heap.size (w.heap.size + 1) (w.heap.size + 1 + 1) c' n' _ rs W hc4 hn4 ((hQ.below hb0).below hb) ((hn.below hb0).below hb) hl ((hv.below hb0).below hb) (cell_kept hb q0) (cell_kept hb q1) (cell_kept hb q2) hok.1 hok.2).mono ?_
      rintro e w' ⟨g, cap, rfl, hown, hb3⟩
      refine ⟨_, _, _, rfl, fun ao' k' cap' e => ?_, hb3⟩
      injection e with e
      have := congrArg (fun a : Array Value => a[0]?) e
      simp at this
      obtain ⟨e1, e2, e3⟩ := this
      subst e1 e2 e3
      exact hown
    have C := Lib.hid (attemptPi_yes 48 #[.pointer (some ⟨w.heap.size, 0, none⟩), .pointer (some ⟨w.heap.size + 1, 0, none⟩), .pointer (some ⟨w.heap.size + 1 + 1, 0, none⟩)] W0 (fun u W w' => ∀ ao' k' cap', u = .agg #[.slice ao' k' cap'] → OwnP w' W.heap.size (.slice ao' k' cap') (pfV c n rs)) call_PF1 hwork)
    obtain ⟨P, hP⟩ : ∃ P, pfV c n rs = P := ⟨_, rfl⟩
    rw [hP] at C ⊢
    clear hv hn hQ hok p0 p1 p2 p3 q0 q1 q2 hb1 hb2 hW0 hW1 hwork hP hs0 hs1
    go_enter Tryd.func17, Tryd.ntmps17
    go_upto_region 1 with fail
    rw [HW.out]
    go_wp2_with fail
    refine C.out.mono ?_
    rintro e w9 ⟨a5, n5, c5, w1, rfl, hQ, hb1, rfl, hr1, hr2⟩
    have hown := hQ _ _ _ rfl
    have hr3 : (w1.setCell ⟨W0.heap.size, 0, none⟩ (.slice a5 n5 c5)).heap[W0.heap.size + 1]? = some (.cells #[.bool false] 4 (0, 0)) := (Below.heap_setCell _ _ _ _ (by simp)).trans hr2
    have o1 := own_set (u := .slice a5 n5 c5) hown hr1 (by decide)
    have o2 := own_set (u := .bool true) o1 hr3 (by decide)
    have hbe : Below W0.heap.size W0 ((w1.setCell ⟨W0.heap.size, 0, none⟩ (.slice a5 n5 c5)).setCell ⟨W0.heap.size + 1, 0, none⟩ (.bool true)) := (hb1.setCell (by simp) _).setCell (by simp) _
    have hle := HB0.out.size
    have o3 : OwnP _ _ _ _ := OwnP.mono o2 (show w.heap.size ≤ _ by simp; omega)
    obtain ⟨W9, hW9⟩ : ∃ W9, ((w1.setCell ⟨W0.heap.size, 0, none⟩ (.slice a5 n5 c5)).setCell ⟨W0.heap.size + 1, 0, none⟩ (.bool true)) = W9 := ⟨_, rfl⟩
    rw [hW9] at hbe o3 ⊢
    have hp1 := KR.out _ hbe
    have hfr : W9.frozen? ⟨w.heap.size + 1 + 1 + 1, 0, none⟩ = false := free_of_one hp1
    have hc2 : W9.cell? ⟨w.heap.size + 1 + 1 + 1, 0, none⟩ = some (.slice none 0 0) := cell_of_one hp1
    have O2 := Lib.hid (own_set (u := .slice a5 n5 c5) o3 hp1 (by decide))
    have P5 := Lib.hid hp1
    have B5 := Lib.hid (HB0.out.trans (hbe.mono HB0.out.size))
    clear hQ hb1 hr1 hr2 hown hr3 o1 o2 hbe o3 hW9 hp1 hb0 hle
    go_wp2_with fail
    refine bodyPost_ret (v := .tuple #[.agg #[.slice a5 n5 c5], .bool true]) (by simp [results, Tryd.results17, go_sem, cell_of_one (one_setCell P5.out)]) rfl ⟨_, _, _, rfl, O2.out, B5.out.setCell (by show w.heap.size ≤ w.heap.size + 1 + 1 + 1; omega) _⟩
end Go.Proofs.YthblhibkbcmbaaaDoor

/- Contracts of single functions, and plain lemmas, on which the exact laws of this seat rest; each holds under the conditions that it states. -/
namespace Go.Proofs.YthblhibkbcmbaaaDoor
set_option linter.unusedVariables false
open Go.RowKit

/-- want, the argument's copy and got: each in a variable of its own, made one after the other -/
structure ThreePics (W : World) (b1 b2 b3 lo h2 h3 : Nat) (u v x : Value) (xs ys zs : List ByteArray) : Prop where
  c1 : W.heap[b1]? = some (.cells #[u] 29 (0, 0))
  c2 : W.heap[b2]? = some (.cells #[v] 29 (0, 0))
  c3 : W.heap[b3]? = some (.cells #[x] 29 (0, 0))
  o1 : OwnP W lo u xs
  o2 : OwnP W h2 v ys
  o3 : OwnP W h3 x zs
  lt1 : ∀ j, u.ownBlock = some j → j < h2
  lt2 : ∀ j, v.ownBlock = some j → j < h3
  le : h2 ≤ h3

variable {W W' : World} {b1 b2 b3 lo h2 h3 : Nat} {u v x : Value} {xs ys zs ms : List ByteArray}
theorem ThreePics.below (h : ThreePics W b1 b2 b3 lo h2 h3 u v x xs ys zs) (hb : Below W.heap.size W W') : ThreePics W' b1 b2 b3 lo h2 h3 u v x xs ys zs :=
  ⟨(hb.block _ (Array.getElem?_eq_some_iff.1 h.c1).1).trans h.c1, (hb.block _ (Array.getElem?_eq_some_iff.1 h.c2).1).trans h.c2, (hb.block _ (Array.getElem?_eq_some_iff.1 h.c3).1).trans h.c3, own_below h.o1 hb, own_below h.o2 hb, own_below h.o3 hb, h.lt1, h.lt2, h.le⟩

theorem ThreePics.mark2 (h : ThreePics W b1 b2 b3 lo h2 h3 u v x xs ys zs) (ho : OwnP W' h2 v ms) (hg : W.grownBy W' v.ownBlock) : ThreePics W' b1 b2 b3 lo h2 h3 u v x xs ms zs :=
  ⟨var_far h.c1 h.o2 (by decide) hg, var_far h.c2 h.o2 (by decide) hg, var_far h.c3 h.o2 (by decide) hg, own_apart (k := 0) h.o1 h.o2 h.lt1 hg, ho, own_apart' h.o3 h.o2 h.lt2 hg, h.lt1, h.lt2, h.le⟩
theorem ThreePics.mark3 (h : ThreePics W b1 b2 b3 lo h2 h3 u v x xs ys zs) (ho : OwnP W' h3 x ms) (hg : W.grownBy W' x.ownBlock) : ThreePics W' b1 b2 b3 lo h2 h3 u v x xs ys ms :=
  ⟨var_far h.c1 h.o3 (by decide) hg, var_far h.c2 h.o3 (by decide) hg, var_far h.c3 h.o3 (by decide) hg, own_apart (k := 0) h.o1 h.o3 (fun j hj => Nat.lt_of_lt_of_le (h.lt1 j hj) h.le) hg, own_apart (k := 0) h.o2 h.o3 h.lt2 hg, ho, h.lt1, h.lt2, h.le⟩
theorem ThreePics.v1 (h : ThreePics W b1 b2 b3 lo h2 h3 u v x xs ys zs) : W.cell? ⟨b1, 0, none⟩ = some u := cell_of_one h.c1
theorem ThreePics.v2 (h : ThreePics W b1 b2 b3 lo h2 h3 u v x xs ys zs) : W.cell? ⟨b2, 0, none⟩ = some v := cell_of_one h.c2
theorem ThreePics.v3 (h : ThreePics W b1 b2 b3 lo h2 h3 u v x xs ys zs) : W.cell? ⟨b3, 0, none⟩ = some x := cell_of_one h.c3
theorem ThreePics.grow2 {w : World} (h : ThreePics W b1 b2 b3 lo h2 h3 u v x xs ys zs) (hw : w.heap.size ≤ h2) (hb : Below w.heap.size w W) (hg : W.grownBy W' v.ownBlock) : Below w.heap.size w W' :=
  hb.grown hg hb.size (fun k hk => Nat.le_trans hw (h.o2.lt k hk).1)
theorem ThreePics.grow3 {w : World} (h : ThreePics W b1 b2 b3 lo h2 h3 u v x xs ys zs) (hw : w.heap.size ≤ h2) (hb : Below w.heap.size w W) (hg : W.grownBy W' x.ownBlock) : Below w.heap.size w W' :=
  hb.grown hg hb.size (fun k hk => Nat.le_trans (Nat.le_trans hw h.le) (h.o3.lt k hk).1)

/-- the third picture comes -/
theorem ThreePics.mk' {w2 w3 : World} {P Q : List ByteArray} (h : TwoPics (w2.alloc (.cells #[v] 29)) b1 b2 lo h2 u v P Q) (hle : h2 ≤ (w2.alloc (.cells #[v] 29)).heap.size) (h3' : OwnP w3 (w2.alloc (.cells #[v] 29)).heap.size x zs) (hb : Below (w2.alloc (.cells #[v] 29)).heap.size (w2.alloc (.cells #[v] 29)) w3) :
    ThreePics (w3.alloc (.cells #[x] 29)) b1 b2 w3.heap.size lo h2 (w2.heap.size + 1) u v x P Q zs := by
  have hb2 := hb.trans ((Joins.below_alloc1 w3 (.cells #[x] 29)).mono hb.size)
  have h' := h.below hb2
  refine ⟨h'.c1, h'.c2, heap_alloc_last w3 _, h'.o1, h'.o2, ?_, h.lt, fun j hj => ?_, by simpa using hle⟩
  · have := h3'.alloc (.cells #[x] 29)
    unfold OwnP
    simpa using this
  · have := (h.o2.lt j hj).2
    simpa using this
end Go.Proofs.YthblhibkbcmbaaaDoor

/- Contracts of single functions, and plain lemmas, on which the exact laws of this seat rest; each holds under the conditions that it states. -/
namespace Go.Proofs.YthblhibkbcmbaaaDoor
set_option linter.unusedVariables false
set_option linter.unusedSimpArgs false
open Go.RowKit

/-- want (in a variable), the argument's copy (in a slot) and got (in a variable) -/
structure FroN (W : World) (b1 b3 lo h2 h3 : Nat) (u x z : Value) (P : List ByteArray) (X : List Int) (Z : List ByteArray) : Prop where
  c1 : W.heap[b1]? = some (.cells #[u] 29 (0, 0))
  c3 : W.heap[b3]? = some (.cells #[z] 29 (0, 0))
  o1 : OwnP W lo u P
  o2 : OwnN W h2 x X
  o3 : OwnP W h3 z Z
  lt1 : ∀ j, u.ownBlock = some j → j < h2
  lt2 : ∀ j, x.ownBlock = some j → j < h3
  le : h2 ≤ h3
section
variable {W W' : World} {b1 b3 lo h2 h3 : Nat} {u x z : Value} {P Z ms : List ByteArray} {X ns : List Int}
theorem FroN.below (h : FroN W b1 b3 lo h2 h3 u x z P X Z) (hb : Below W.heap.size W W') : FroN W' b1 b3 lo h2 h3 u x z P X Z :=
  ⟨(hb.block _ (Array.getElem?_eq_some_iff.1 h.c1).1).trans h.c1, (hb.block _ (Array.getElem?_eq_some_iff.1 h.c3).1).trans h.c3, own_below h.o1 hb, own_below h.o2 hb, own_below h.o3 hb, h.lt1, h.lt2, h.le⟩
theorem FroN.mark2 (h : FroN W b1 b3 lo h2 h3 u x z P X Z) (ho : OwnN W' h2 x ns) (hg : W.grownBy W' x.ownBlock) : FroN W' b1 b3 lo h2 h3 u x z P ns Z :=
  ⟨var_far h.c1 h.o2 (by decide) hg, var_far h.c3 h.o2 (by decide) hg, own_apart (k := 0) h.o1 h.o2 h.lt1 hg, ho, own_apart' h.o3 h.o2 h.lt2 hg, h.lt1, h.lt2, h.le⟩
theorem FroN.mark3 (h : FroN W b1 b3 lo h2 h3 u x z P X Z) (ho : OwnP W' h3 z ms) (hg : W.grownBy W' z.ownBlock) : FroN W' b1 b3 lo h2 h3 u x z P X ms :=
  ⟨var_far h.c1 h.o3 (by decide) hg, var_far h.c3 h.o3 (by decide) hg, own_apart (k := 0) h.o1 h.o3 (fun j hj => Nat.lt_of_lt_of_le (h.lt1 j hj) h.le) hg, own_apart (k := 0) h.o2 h.o3 h.lt2 hg, ho, h.lt1, h.lt2, h.le⟩
theorem FroN.v1 (h : FroN W b1 b3 lo h2 h3 u x z P X Z) : W.cell? ⟨b1, 0, none⟩ = some u := cell_of_one h.c1
theorem FroN.v3 (h : FroN W b1 b3 lo h2 h3 u x z P X Z) : W.cell? ⟨b3, 0, none⟩ = some z := cell_of_one h.c3
theorem FroN.grow2 {w : World} (h : FroN W b1 b3 lo h2 h3 u x z P X Z) (hw : w.heap.size ≤ h2) (hb : Below w.heap.size w W) (hg : W.grownBy W' x.ownBlock) : Below w.heap.size w W' :=
  hb.grown hg hb.size (fun k hk => Nat.le_trans hw (h.o2.lt k hk).1)
theorem FroN.grow3 {w : World} (h : FroN W b1 b3 lo h2 h3 u x z P X Z) (hw : w.heap.size ≤ h2) (hb : Below w.heap.size w W) (hg : W.grownBy W' z.ownBlock) : Below w.heap.size w W' :=
  hb.grown hg hb.size (fun k hk => Nat.le_trans (Nat.le_trans hw h.le) (h.o3.lt k hk).1)
end

/-- a copy of numbers, wherever it lies -/
def SomeNn (w : World) (n : Nat) (xs : List Int) (e : Ending) (w' : World) : Prop := ∃ g cap, e = .returned (.slice (some ⟨g, 0, none⟩) n cap) ∧ OwnN w' w.heap.size (.slice (some ⟨g, 0, none⟩) n cap) xs ∧ Below w.heap.size w w'
theorem both_PF (a c : Int) (xs : List Int) (hN : xs.length ≤ 1048576) : ∃ (P : List ByteArray) (ok : Bool), P.length ≤ 16 ∧
    (∀ u W, SlN W u xs → Calls Tryd.prog 15 #[.int .i64 a, .int .i64 c, u] W (SaysPic P ok W)) ∧
    (∀ u W, SlN W u xs → NoRes W → QvP W → Calls Tryd.prog 17 #[.int .i64 a, .int .i64 c, u] W (SaysPic P ok W)) := by
  refine ⟨pfV a c xs, pfOk a c xs, ?_, fun u W hu => spec_PF a c u xs W hN hu, fun u W hu hn hQ => impl_PF a c u xs W hN hu hn hQ⟩
  unfold pfV
  split
  · rename_i h
    rw [mkPic_len]
    unfold pfOk at h
    simp only [Bool.and_eq_true] at h
    have h2 := h.1.2
    simp only [inB, Bool.and_eq_true, decide_eq_true_eq] at h2
    exact pow_le16 (by omega)
  · simp

set_option maxHeartbeats 4000000 in
set_option maxRecDepth 100000 in
theorem law_PictureFromRuns (a c : Int) (v : Value) (xs : List Int) (w : World) (hN : xs.length ≤ maxLen) (hv : SlN w v xs) (hnr : NoRes w) (hQv : QvP w) :
    Calls Tryd.prog 4 #[.int .i64 a, .int .i64 c, v] w fun e w' => e = .returned (.bool true) ∧ Below w.heap.size w w' := by
  obtain ⟨ao, cap, rfl⟩ := hv.form
  have HSL : Hid (∀ W, Below w.heap.size w W → SlN W (.slice ao xs.length cap) xs) := fun W hb => hv.below hb
  have HNr : Hid (∀ W, Below w.heap.size w W → NoRes W) := fun W hb => hnr.below hb
  have HQv : Hid (∀ W, Below w.heap.size w W → QvP W) := fun W hb => hQv.below hb
  unfold maxLen at hN
  clear hv hnr hQv
  by_cases hsm : xs.length ≤ 1048576
  · obtain ⟨P, ok, hPl, hS, hI⟩ := both_PF a c xs hsm
    have CT : Hid (∀ W, Below w.heap.size w W → Calls Tryd.prog 16 #[.slice ao xs.length cap] W (SomeNn W xs.length xs)) := fun W hb => toInt64S_N _ xs W hsm (HSL.out W hb)
    unfold SomeNn at CT
    have CES : Hid (∀ u v W, SlN W u xs → SlN W v xs → Calls Tryd.prog 10 #[u, v] W (SaysB true W)) := fun u v W hu hv => eqInt64N u v xs W (by unfold maxLen; omega) hu hv
    obtain ⟨m, hm0, hM, hH⟩ : ∃ m : Int, 0 ≤ m ∧ (∀ v base W, OwnP W base v P → Calls Tryd.prog 12 #[.agg #[v], .int .i64 1] W (fun e w' => e = .returned (.int .i64 m) ∧ OwnP w' base v (marks 1 P.length) ∧ W.grownBy w' v.ownBlock)) ∧ (∀ v W, Sl W v (marks 1 P.length) → Calls Tryd.prog 18 #[.agg #[v], .int .i64 1] W (fun e w' => e = .returned (.int .i64 m) ∧ Below W.heap.size W w')) :=
      ⟨((1 + P.length : Nat) : Int), by omega, fun v base W h => markPicture_any v P base 1 W (by omega) (by omega) h, fun v W h => heldPicture_any v 1 P.length W (by omega) (by omega) h⟩
    obtain ⟨m2, hm2, hM2⟩ : ∃ m : Int, 0 ≤ m ∧ (∀ v base W, OwnN W base v xs → Calls Tryd.prog 13 #[v, .int .i64 1] W (fun e w' => e = .returned (.int .i64 m) ∧ OwnN w' base v (marksN 1 xs.length) ∧ W.grownBy w' v.ownBlock)) :=
      ⟨((1 + xs.length : Nat) : Int), by omega, fun v base W h => markInt64G base v xs 1 W (by omega) (by omega) h⟩
    have CS := Lib.hid hS
    have CI := Lib.hid hI
    have CM := Lib.hid hM
    have CM2 := Lib.hid hM2
    have CH := Lib.hid hH
    have CE : Hid (∀ u v W, Sl W u P → Sl W v P → Calls Tryd.prog 11 #[.agg #[u], .agg #[v]] W (SaysB true W)) := fun u v W hu hv => by
      have := eqPicture_any u v P P W (by unfold maxLen; omega) (by unfold maxLen; omega) hu hv
      rwa [sameL_self] at this
    obtain ⟨n, hn⟩ : ∃ n, xs.length = n := ⟨_, rfl⟩
    rw [hn] at CT CM2 hsm hN ⊢
    have CI9 : Hid (∀ u W, SlN W u xs → Below w.heap.size w W → Calls Tryd.prog 17 #[.int .i64 a, .int .i64 c, u] W (SaysPic P ok W)) := fun u W hu hb => CI.out u W hu (HNr.out W hb) (HQv.out W hb)
    have kn : ¬ ((1048576 : Int) < (n : Int)) := by omega
    clear hS hI hM hM2 hH hn HSL CI HNr HQv
    go_enter Tryd.func4, Tryd.ntmps4
    go_wp2_with fail
    · skip
      refine (CT.out _ (Below.refl _ _)).mono ?_
      rintro e w1 ⟨g1, k1, rfl, h1, hb1⟩
      have B1 := Lib.hid hb1
      have S1 := Lib.hid (OwnN.sl h1)
      clear hb1 h1
      go_wp2_with fail
      refine (CS.out _ _ S1.out).mono ?_
      rintro e w2 ⟨ao2, n2, cap2, rfl, h2, hb2⟩
      have B2 : Hid (Below w.heap.size w (w2.alloc (.cells #[.slice ao2 n2 cap2] 29))) := (B1.out.trans (hb2.mono B1.out.size)).alloc (Nat.le_trans B1.out.size hb2.size) _
      have O2 := Lib.hid h2
      have l2 : w1.heap.size ≤ w2.heap.size := hb2.size
      clear hb2 h2
      go_wp2_with fail
      refine (CT.out _ B2.out).mono ?_
      rintro e w3 ⟨g3, k3, rfl, h3, hb3⟩
      have B3 : Hid (Below w.heap.size w w3) := B2.out.trans (hb3.mono B2.out.size)
      have H3 := Lib.hid h3
      have HB3 := Lib.hid hb3
      have S3 := Lib.hid (OwnN.sl h3)
      have l3 : w2.heap.size + 1 ≤ w3.heap.size := by have := hb3.size; simpa using this
      clear hb3 h3
      go_wp2_with fail
      refine (CI9.out _ _ S3.out B3.out).mono ?_
      rintro e w4 ⟨ao4, n4, cap4, rfl, h4, hb4⟩
      have T4 : Hid (FroN (w4.alloc (.cells #[.slice ao4 n4 cap4] 29)) w2.heap.size w4.heap.size w1.heap.size (w2.heap.size + 1) w3.heap.size (.slice ao2 n2 cap2) (.slice (some ⟨g3, 0, none⟩) n k3) (.slice ao4 n4 cap4) P xs P) := by
        have ba := Joins.below_alloc1 w4 (.cells #[.slice ao4 n4 cap4] 29)
        have l4 := hb4.size
        refine ⟨?_, heap_alloc_last w4 _, own_below (own_below (own_below (O2.out.alloc _) HB3.out) hb4) ba, own_below (own_below (show OwnN w3 (w2.heap.size + 1) (.slice (some ⟨g3, 0, none⟩) n k3) xs from by have := H3.out; simp only [World.size_alloc] at this; exact this) hb4) ba, own_below h4 ba, fun j hj => ?_, fun j hj => (H3.out.lt j hj).2, l3⟩
        · rw [Below.heap_alloc _ _ _ (by omega), hb4.block _ (by omega), HB3.out.block _ (by simp)]; exact heap_alloc_last w2 _
        · have := (O2.out.lt j hj).2; omega
      have B4 : Hid (Below w.heap.size w (w4.alloc (.cells #[.slice ao4 n4 cap4] 29))) := (B3.out.trans (hb4.mono B3.out.size)).alloc (Nat.le_trans B3.out.size hb4.size) _
      have hlo : w.heap.size ≤ w2.heap.size + 1 := by have := B1.out.size; omega
      have x1 := T4.out.v1
      have x3 := T4.out.v3
      clear hb4 h4 O2 H3 HB3 S1 S3 B1 B2 B3
      go_wp2_with fail
      refine (CE.out _ _ _ T4.out.o3.sl T4.out.o1.sl).mono ?_
      rintro e w5 ⟨rfl, hb5⟩
      have T5 := Lib.hid (T4.out.below hb5)
      have B5 := Lib.hid (B4.out.trans (hb5.mono B4.out.size))
      clear hb5 x1 x3 T4 B4
      go_wp2_with fail
      refine (CT.out _ B5.out).mono ?_
      rintro e w6 ⟨g6, k6, rfl, h6, hb6⟩
      have T6 := Lib.hid (T5.out.below hb6)
      have B6 := Lib.hid (B5.out.trans (hb6.mono B5.out.size))
      have S6 := Lib.hid (OwnN.sl h6)
      clear h6 hb6 T5 B5
      go_wp2_with fail
      refine (CES.out _ _ _ (OwnN.sl T6.out.o2) S6.out).mono ?_
      rintro e w7 ⟨rfl, hb7⟩
      have T7 := Lib.hid (T6.out.below hb7)
      have B7 := Lib.hid (B6.out.trans (hb7.mono B6.out.size))
      clear hb7 T6 B6 S6
      go_wp2_with fail
      refine (CM2.out _ _ _ T7.out.o2).mono ?_
      rintro e w8 ⟨rfl, ho8, hg8⟩
      have T8 := Lib.hid (T7.out.mark2 ho8 hg8)
      have B8 := Lib.hid (T7.out.grow2 hlo B7.out hg8)
      have x1 := T8.out.v1
      have x3 := T8.out.v3
      clear ho8 hg8 T7 B7
      go_wp2_with fail
      refine (CE.out _ _ _ T8.out.o3.sl T8.out.o1.sl).mono ?_
      rintro e w9 ⟨rfl, hb9⟩
      have T9 := Lib.hid (T8.out.below hb9)
      have B9 := Lib.hid (B8.out.trans (hb9.mono B8.out.size))
      have y3 := T9.out.v3
      clear hb9 x1 x3 T8 B8
      go_wp2_with fail
      refine (CM.out _ _ _ T9.out.o3).mono ?_
      rintro e w10 ⟨rfl, ho10, hg10⟩
      have T10 := Lib.hid (T9.out.mark3 ho10 hg10)
      have B10 := Lib.hid (T9.out.grow3 hlo B9.out hg10)
      have z3 := T10.out.v3
      clear ho10 hg10 y3 T9 B9
      go_wp2_with fail
      refine (CH.out _ _ T10.out.o3.sl).mono ?_
      rintro e w11 ⟨rfl, hb11⟩
      have T11 := Lib.hid (T10.out.below hb11)
      have B11 := Lib.hid (B10.out.trans (hb11.mono B10.out.size))
      clear hb11 z3 T10 B10
      go_wp2_with fail
      refine (CT.out _ B11.out).mono ?_
      rintro e w12 ⟨g12, k12, rfl, h12, hb12⟩
      have T12 := Lib.hid (T11.out.below hb12)
      have B12 := Lib.hid (B11.out.trans (hb12.mono B11.out.size))
      have S12 := Lib.hid (OwnN.sl h12)
      clear h12 hb12 T11 B11
      go_wp2_with fail
      refine (CI9.out _ _ S12.out B12.out).mono ?_
      rintro e w13 ⟨ao13, n13, cap13, rfl, h13, hb13⟩
      have T13 := Lib.hid ((T12.out.below hb13).below (Joins.below_alloc1 w13 (.cells #[.slice ao13 n13 cap13] 29)))
      have B13 : Hid (Below w.heap.size w (w13.alloc (.cells #[.slice ao13 n13 cap13] 29))) := (B12.out.trans (hb13.mono B12.out.size)).alloc (Nat.le_trans B12.out.size hb13.size) _
      have O13 := Lib.hid (OwnP.sl (h13.alloc (.cells #[.slice ao13 n13 cap13] 29)))
      have x1 := T13.out.v1
      have x13 : (w13.alloc (.cells #[.slice ao13 n13 cap13] 29)).cell? ⟨w13.heap.size, 0, none⟩ = some (.slice ao13 n13 cap13) := cell_of_one (heap_alloc_last w13 _)
      clear h13 hb13 T12 B12 S12
      go_wp2_with fail
      refine (CE.out _ _ _ O13.out T13.out.o1.sl).mono ?_
      rintro e w14 ⟨rfl, hb14⟩
      have T14 := Lib.hid (T13.out.below hb14)
      have B14 := Lib.hid (B13.out.trans (hb14.mono B13.out.size))
      have y3 := T14.out.v3
      clear hb14 x1 x13 T13 B13 O13
      go_wp2_with fail
      refine (CH.out _ _ T14.out.o3.sl).mono ?_
      rintro e w15 ⟨rfl, hb15⟩
      have B15 := Lib.hid (B14.out.trans (hb15.mono B14.out.size))
      clear hb15 y3
      go_wp2
      go_ret
      exact ⟨rfl, B15.out⟩
  · have kn : (1048576 : Int) < (xs.length : Int) := by omega
    obtain ⟨n, hn⟩ : ∃ n, xs.length = n := ⟨_, rfl⟩
    rw [hn] at kn ⊢
    clear hn HSL HNr HQv
    go_enter Tryd.func4, Tryd.ntmps4
    go_wp2_with fail
    go_ret
    exact ⟨rfl, Below.refl _ _⟩
end Go.Proofs.YthblhibkbcmbaaaDoor
