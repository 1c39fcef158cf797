/- Contracts of single functions, and plain lemmas, on which the exact laws of this seat rest; each holds under the conditions that it states. -/
import Derived.Test.YtabkkpifkkgpeaaDoorAh
import Derived.Test.YtabkkpifkkgpeaaDoorLt
import Derived.Maps.Views
import Derived.Maps.OwnOps
import Derived.Maps.OwnSet
import Derived.DeepKeys4
import Derived.Maps.AppendAt
namespace Go.Proofs.YtabkkpifkkgpeaaDoor
set_option linter.unusedVariables false
set_option linter.unusedSimpArgs false
open Go.RowKit Go.Shelf
attribute [local go_sem] Oper.semAt_some

set_option maxRecDepth 100000 in
set_option maxHeartbeats 4000000 in
theorem elementOf_Has (q : Nat) (f : Int → Int → Bool) (w : World)
    (hhas : ∀ (x : Off) (W : World), Below w.heap.size w W → Calls Tryd.prog 139 #[.map (some q), .agg #[.int .i64 x.1.1, .int .i64 x.1.2]] W (SaysB (f x.1.1 x.1.2) W)) :
    Calls Tryd.prog 137 #[.func (.func 139) #[.map (some q)] #[]] w (SaysEl (elL f) w) := by
  refine (callsIn_wide (n := 6)).1 ?_
  have HH := Lib.hid hhas
  clear hhas
  obtain ⟨i0, hi, hz0, hz1, hz2⟩ := info_parts infoSp
  refine callsIn_of_wp_marks Tryd.func137 rfl trivial ?_ rfl
  simp only [Tryd.ntmps137, List.size_toArray, List.length_cons, List.length_nil, Nat.reduceAdd, Nat.reduceSub, Array.replicate_succ, Array.replicate_zero, List.push_toArray, List.append_toArray, List.nil_append, List.cons_append]
  gi_wp2
  have bH := Boxed.new w 79 (.func (.func 139) #[.map (some q)] #[])
  have bR := Boxed.new (w.alloc (.cells #[.func (.func 139) #[.map (some q)] #[]] 79)) 46 (.slice none 0 0)
  have bE := Boxed.new ((w.alloc (.cells #[.func (.func 139) #[.map (some q)] #[]] 79)).alloc (.cells #[.slice none 0 0] 46)) 46 (.slice none 0 0)
  rw [World.size_alloc] at bR bE
  rw [World.size_alloc] at bE
  have hB0 : Below w.heap.size w (((w.alloc (.cells #[.func (.func 139) #[.map (some q)] #[]] 79)).alloc (.cells #[.slice none 0 0] 46)).alloc (.cells #[.slice none 0 0] 46)) := Joins.below_alloc3 _ _ _ _
  obtain ⟨W0, hW0⟩ : ∃ W0, (((w.alloc (.cells #[.func (.func 139) #[.map (some q)] #[]] 79)).alloc (.cells #[.slice none 0 0] 46)).alloc (.cells #[.slice none 0 0] 46)) = W0 := ⟨_, rfl⟩
  have hsz : W0.heap.size = w.heap.size + 3 := by rw [← hW0]; simp
  have bH0 : Boxed W0 w.heap.size 79 (.func (.func 139) #[.map (some q)] #[]) := by rw [← hW0]; exact (bH.alloc _).alloc _
  have bR0 : Boxed W0 (w.heap.size + 1) 46 (.slice none 0 0) := by rw [← hW0]; exact bR.alloc _
  rw [hW0] at hB0 bE ⊢
  clear bH bR hW0
  refine wpIn_rangeFunc_ownH rfl (by omega) (gf := 158) (lb := #[]) rfl trivial (enters_of Tryd.func158 (by kernel_rfl) rfl)
    (allOffsets_stops Fence.wide (6 - 1) trivial rfl (by omega) (Below w.heap.size) W0) belowK_t (belowK_b (by omega)) (Below.refl _ _) (fun _ => rfl)
    (fun pre W => ((Boxed W w.heap.size 79 (.func (.func 139) #[.map (some q)] #[]) ∧ Boxed W (w.heap.size + 1) 46 (.slice none 0 0)) ∧ (∃ v, Boxed W (w.heap.size + 1 + 1) 46 v ∧ W.ownsRow w.heap.size 29 2 v (selL f pre).length (flat2 (selL f pre)) ∧ (∃ ao m cap, v = .slice ao m cap))) ∧ Below w.heap.size w W)
    (fun _ _ _ => False)
    (OwnFrom.and (OwnFrom.and (OwnFrom.and (Own.from (boxed_own _ _ _) _) (Own.from (boxed_own _ _ _) _)) (Own.from (holdsRow_own w.heap.size (w.heap.size + 1 + 1) 46 29 2 (fun pre => (selL f pre).length) (fun pre => flat2 (selL f pre)) (fun _ v => ∃ ao m cap, v = .slice ao m cap)) _)) (ownFrom_below (Nat.le_refl _) (by omega)))
    (fun _ _ _ _ _ hs _ _ => hs)
    ⟨⟨⟨bH0, bR0⟩, ⟨_, bE, World.ownsRow_nil _ _ _ _, _, _, _, rfl⟩⟩, hB0⟩
    (fun x a' W => ∃ Bx, w.heap.size + 1 + 1 < Bx ∧ Two W Bx x ∧ a' = { tmps := #[.func (.func 139) #[.map (some q)] #[], .pointer (some ⟨w.heap.size, 0, none⟩), .pointer (some ⟨w.heap.size + 1, 0, none⟩), .pointer (some ⟨w.heap.size + 1 + 1, 0, none⟩), .pointer (some ⟨Bx, 0, none⟩), .agg #[.int .i64 x.1.1, .int .i64 x.1.2], undef, undef, undef, undef, undef, undef, undef, undef, undef, undef], defers := [] })
    (fun x a' s X Y row hs hg hrow => by
      obtain ⟨Bx, hBx, h2, he⟩ := hs
      exact ⟨Bx, hBx, Two.own Bx x () X Y row h2 hg (fun r e => (hrow r e).2), he⟩)
    ?assign ?body ?done ?stop
  case assign =>
    rintro l pre x W K ⟨⟨⟨b1, b2⟩, v, b3, hrow, hv⟩, hB⟩ hK
    have hs := hB.size
    have hlt := b3.lt
    simp only [encO]
    gi_wp2
    exact hK _ _ ((KeepsOthers.alloc _ _).from _) ((Below.refl _ W).alloc hs _) ⟨⟨⟨b1.alloc _, b2.alloc _⟩, v, b3.alloc _, hrow.alloc _, hv⟩, hB.alloc hs _⟩ ⟨W.heap.size, hlt, heap_alloc_last W _, rfl⟩
  case body =>
    rintro l pre x a' W hl _ ⟨⟨⟨b1, b2⟩, v, b3, hrow, ao, m, cap, rfl⟩, hB⟩ ⟨Bx, hBx, h2, rfl⟩ hlt
    have hs := hB.size
    have hlt3 := b3.lt
    have hltx := h2.lt
    have c1 := b1.cell
    have x0 := h2.c0
    have x1 := h2.c1
    have hC := Lib.hid (HH.out x W hB)
    have HRow := Lib.hid hrow
    have hlen := selL_len f pre
    clear hrow HH
    obtain ⟨xa, hxa⟩ : ∃ t, x.1.1 = t := ⟨_, rfl⟩
    obtain ⟨xb, hxb⟩ : ∃ t, x.1.2 = t := ⟨_, rfl⟩
    rw [hxa, hxb] at hC ⊢
    rw [hxa] at x0
    rw [hxb] at x1
    cases hf : f xa xb with
    | true =>
      rw [hf] at hC
      have hsel := selL_hit f pre (x := x) (by rw [hxa, hxb]; exact hf)
      rw [hxa, hxb] at hsel
      have HSel := Lib.hid hsel
      obtain ⟨L, hL⟩ : ∃ L, selL f pre = L := ⟨_, rfl⟩
      rw [hL] at HRow HSel hlen
      have hlen2 : L.length ≤ 81 := by omega
      clear hsel hL hlen hf
      gi_wp2_with (refine ⟨trivial, ?_⟩; gi_at_call 139; refine (CallsIn.inRound l (callsIn_wide.2 hC.out)).mono ?_; rintro e w' ⟨rfl, hb⟩; refine Hid.out ?_)
      have hs' := hb.size
      have b1w := Boxed.below' b1 hb
      have b2w := Boxed.below' b2 hb
      have b3w := Boxed.below' b3 hb
      have h2w := h2.below hb
      have hroww := own_below HRow.out hb
      have hBw := hB.trans (hb.mono hs)
      have hsw := hBw.size
      have hc := b3w.cell
      have y0 := h2w.c0
      have y1 := h2w.c1
      have hltw := h2w.lt
      have hlt3w := b3w.lt
      rw [hxa] at y0
      rw [hxb] at y1
      clear x0 x1 c1 hC
      refine Lib.hid ?_
      gi_wp2_with (gi_at_builtin; refine wpListIn_append_own _ rfl _ _ 44 rfl w.heap.size 29 i0 (.agg #[.int .i64 0, .int .i64 0]) 2 16 Tryd.underlying44 hi hz0 hz1 hz2 rfl (by decide) _ _ _ rfl (hroww.alloc _) ⟨w'.heap.size, 0, none⟩ 1 1 [.int .i64 xa, .int .i64 xb] rfl rfl (two_cells_new _ _ _ _) (by intro u hu; simp at hu; rcases hu with rfl | rfl <;> rfl) (by unfold maxLen; omega) (by omega) (by simp; omega) ?_; intro v' w1 hown' hgrow _; obtain ⟨g', cap', rfl⟩ := ownsRow_succ hown'; obtain ⟨hv1, hv2, hr2, hk2, hb2⟩ := b3w.appended (by decide) hroww hsw (by omega) hown' hgrow; have hc1 := hv1.cell; have hf1 := hv1.frozen)
      refine ⟨(keeps_below _ hb).trans (hk2.from _), (hb.mono hs).trans hb2, ⟨⟨⟨((b1w.alloc _).kept hgrow (b1w.not_row (by decide) hroww)).other (by omega) _, ((b2w.alloc _).kept hgrow (b2w.not_row (by decide) hroww)).other (by omega) _⟩, _, hv2, ?_, _, _, _, rfl⟩, hBw.trans hb2⟩⟩
      rw [HSel.out, flat2_snoc, List.length_append]
      exact hr2
    | false =>
      rw [hf] at hC
      have hsel := selL_miss f pre (x := x) (by rw [hxa, hxb]; exact hf)
      gi_wp2_with (refine ⟨trivial, ?_⟩; gi_at_call 139; refine (CallsIn.inRound l (callsIn_wide.2 hC.out)).mono ?_; rintro e w' ⟨rfl, hb⟩)
      refine ⟨keeps_below _ hb, hb.mono hs, ⟨⟨⟨Boxed.below' b1 hb, Boxed.below' b2 hb⟩, _, Boxed.below' b3 hb, ?_, _, _, _, rfl⟩, hB.trans (hb.mono hs)⟩⟩
      rw [hsel]
      exact own_below HRow.out hb
  case done =>
    rintro D ys W hD rfl ⟨⟨⟨b1, b2⟩, v, b3, hrow, ao, m, cap, rfl⟩, hB⟩ hK
    have hc := b3.cell
    have hc2 := b2.cell
    have hf2 := b2.frozen
    gi_wp2
    have hK' : (W.setCell ⟨w.heap.size + 1, 0, none⟩ (.slice ao m cap)).heap[D]? = some (.deferred (some [])) := (KeepsOthers.setCell W ⟨w.heap.size + 1, 0, none⟩ (.slice ao m cap)).same D _ hK rfl
    have hR : Boxed ((W.setCell ⟨w.heap.size + 1, 0, none⟩ (.slice ao m cap)).putObj D (.deferred none)) (w.heap.size + 1) 46 (.slice ao m cap) := (b2.set _).kept (grownBy_putObj' _ D _) (by intro e; have := Option.some.inj e; omega)
    refine ⟨by simp, .inl ⟨_, _, rfl, run_takeDeferred hK', ?_⟩⟩
    refine ⟨_, results_cell1 (p := 2) (ty := 46) Tryd.results137 _ _ (w.heap.size + 1) 46 #[.slice ao m cap] (0, 0) _ rfl hR Tryd.underlying46 rfl infoEl, ao, m, cap, rfl, ?_, ?_⟩
    · exact ownsRow_putObj (hrow.kept (grownBy_setCell' W (w.heap.size + 1) _) (.inr (b2.not_row (by decide) hrow).symm)) _ hK' rfl
    · exact (hB.setCell (p := ⟨w.heap.size + 1, 0, none⟩) (by simp) _).trans (belowK_b (w := w) (Nat.le_refl _) _ D _ _ (by omega) hK' rfl rfl)
  case stop =>
    rintro D c pre W _ _ h _
    exact h.elim
end Go.Proofs.YtabkkpifkkgpeaaDoor

/- Contracts of single functions, and plain lemmas, on which the exact laws of this seat rest; each holds under the conditions that it states. -/
namespace Go.Proofs.YtabkkpifkkgpeaaDoor
set_option linter.unusedVariables false
set_option linter.unusedSimpArgs false
open Go.RowKit

theorem sq_same (n : Nat) (h : 1 ≤ n ∧ n ≤ 5) : grL n 0 (fun _ _ => true) (n * n) = elL (sqF n) := by
  obtain ⟨h1, h2⟩ := h
  rcases (by omega : n = 1 ∨ n = 2 ∨ n = 3 ∨ n = 4 ∨ n = 5) with rfl | rfl | rfl | rfl | rfl <;> decide +kernel

end Go.Proofs.YtabkkpifkkgpeaaDoor

/- Contracts of single functions, and plain lemmas, on which the exact laws of this seat rest; each holds under the conditions that it states. -/
namespace Go.Proofs.YtabkkpifkkgpeaaDoor
set_option linter.unusedVariables false
set_option linter.unusedSimpArgs false
open Go.RowKit

theorem grown_trans_alloc {w w' : World} {o : Obj} {row : Option Nat} (hg : (w.alloc o).grownBy w' row) : w.grownBy w' row := by
  refine ⟨hg.os, hg.tape, hg.output, Nat.le_trans (by simp) hg.size, fun j hj hr => ?_⟩
  rw [hg.block j (by simp; omega) hr]
  exact Below.heap_alloc _ _ _ hj
structure TwoEls (W : World) (b1 b2 lo hi : Nat) (u v : Value) (xs ys : List (Int × Int)) : Prop where
  c1 : W.heap[b1]? = some (.cells #[u] 46 (0, 0))
  c2 : W.heap[b2]? = some (.cells #[v] 46 (0, 0))
  o1 : OwnS W lo u xs
  o2 : OwnS W hi v ys
  lt : ∀ j, u.ownBlock = some j → j < hi

theorem TwoEls.below {W W' : World} {b1 b2 lo hi : Nat} {u v : Value} {xs ys : List (Int × Int)} (h : TwoEls W b1 b2 lo hi u v xs ys) (hb : Below W.heap.size W W') : TwoEls W' b1 b2 lo hi u v xs ys :=
  ⟨(hb.block _ (Array.getElem?_eq_some_iff.1 h.c1).1).trans h.c1, (hb.block _ (Array.getElem?_eq_some_iff.1 h.c2).1).trans h.c2, own_below h.o1 hb, own_below h.o2 hb, h.lt⟩
theorem TwoEls.marked {W W' : World} {b1 b2 lo hi : Nat} {u v : Value} {xs ys zs : List (Int × Int)} (h : TwoEls W b1 b2 lo hi u v xs ys) (ho : OwnS W' hi v zs) (hg : W.grownBy W' v.ownBlock) : TwoEls W' b1 b2 lo hi u v xs zs :=
  ⟨var_far h.c1 h.o2 (by decide) hg, var_far h.c2 h.o2 (by decide) hg, own_apart (k := 0) h.o1 h.o2 h.lt hg, ho, h.lt⟩
theorem TwoEls.v1 {W : World} {b1 b2 lo hi : Nat} {u v : Value} {xs ys : List (Int × Int)} (h : TwoEls W b1 b2 lo hi u v xs ys) : W.cell? ⟨b1, 0, none⟩ = some u := cell_of_one h.c1
theorem TwoEls.v2 {W : World} {b1 b2 lo hi : Nat} {u v : Value} {xs ys : List (Int × Int)} (h : TwoEls W b1 b2 lo hi u v xs ys) : W.cell? ⟨b2, 0, none⟩ = some v := cell_of_one h.c2

/-- want and got, each in a variable of its own, made one after the other -/
theorem TwoEls.mk' {w1 w2 : World} {lo : Nat} {u v : Value} {P : List (Int × Int)} (h1 : OwnS w1 lo u P) (h2 : OwnS w2 (w1.alloc (.cells #[u] 46)).heap.size v P) (hb2 : Below (w1.alloc (.cells #[u] 46)).heap.size (w1.alloc (.cells #[u] 46)) w2) :
    TwoEls (w2.alloc (.cells #[v] 46)) w1.heap.size w2.heap.size lo (w1.heap.size + 1) u v P P := by
  have hs := hb2.size
  simp at hs
  refine ⟨?_, heap_alloc_last w2 _, ?_, ?_, fun j hj => ?_⟩
  · rw [Below.heap_alloc _ _ _ (by omega), hb2.block _ (by simp)]; exact heap_alloc_last w1 _
  · exact (own_below (h1.alloc _) hb2).alloc _
  · have := h2.alloc (.cells #[v] 46)
    unfold OwnS
    simpa using this
  · have := (h1.lt j hj).2; omega

/-- want and got, each in a variable of its own (other rows), made one after the other -/
theorem TwoEls.mk2 {w1 w2 : World} {lo : Nat} {u v : Value} {P Q : List (Int × Int)} (h1 : OwnS w1 lo u P) (h2 : OwnS w2 (w1.alloc (.cells #[u] 46)).heap.size v Q) (hb2 : Below (w1.alloc (.cells #[u] 46)).heap.size (w1.alloc (.cells #[u] 46)) w2) :
    TwoEls (w2.alloc (.cells #[v] 46)) w1.heap.size w2.heap.size lo (w1.heap.size + 1) u v P Q := by
  have hs := hb2.size
  simp at hs
  refine ⟨?_, heap_alloc_last w2 _, ?_, ?_, fun j hj => ?_⟩
  · rw [Below.heap_alloc _ _ _ (by omega), hb2.block _ (by simp)]; exact heap_alloc_last w1 _
  · exact (own_below (h1.alloc _) hb2).alloc _
  · have := h2.alloc (.cells #[v] 46)
    unfold OwnS
    simpa using this
  · have := (h1.lt j hj).2; omega

theorem TwoEls.grow {w W W' : World} {b1 b2 lo hi : Nat} {u v : Value} {xs ys : List (Int × Int)} (h : TwoEls W b1 b2 lo hi u v xs ys) (hw : w.heap.size ≤ hi) (hb : Below w.heap.size w W) (hg : W.grownBy W' v.ownBlock) : Below w.heap.size w W' :=
  hb.grown hg hb.size (fun k hk => Nat.le_trans hw (h.o2.lt k hk).1)

end Go.Proofs.YtabkkpifkkgpeaaDoor

/- Contracts of single functions, and plain lemmas, on which the exact laws of this seat rest; each holds under the conditions that it states. -/
namespace Go.Proofs.YtabkkpifkkgpeaaDoor
set_option linter.unusedVariables false
set_option maxRecDepth 100000
set_option linter.unusedSimpArgs false
open Go.RowKit Go.Maps

/-! ### a set of spots that the call keeps in a map -/
theorem laidOutE : laidOutB Tryd.prog = true := by kernel_rfl
theorem wideSpot : (match Tryd.prog.underlying 29 with | some (.array _ _) | some (.struct _) => true | _ => false) = true := by rw [Tryd.underlying29]
set_option maxRecDepth 100000 in
theorem lawSpot : Keyed Tryd.prog 29 := Keyed.of_law (deep_law_laid laidOutE (m := 4) (by omega) (of_decide_eq_true (by kernel_rfl)) (by kernel_rfl) wideSpot)
theorem zeroBoolE (w : World) : (zeroValue 4).run Tryd.prog w = .ok (.bool false) w := by kernel_rfl
def spV (x y : Int) : Value := .agg #[.int .i64 x, .int .i64 y]
theorem spV_inj {x y x' y' : Int} (h : spV x y = spV x' y') : x = x' ∧ y = y' := by unfold spV at h; simpa using h
theorem cellsSpotE : Tryd.prog.cellsOf 29 = 2 := by kernel_rfl
theorem cellsI64E : Tryd.prog.cellsOf 2 = 1 := by kernel_rfl
theorem keyTypeSpot : Tryd.prog.keyType 29 = true := by kernel_rfl
theorem manyTypesE : 4 ≤ Tryd.prog.types.size := of_decide_eq_true (by kernel_rfl)
theorem keySpot (x y : Int) (hx : (Lit.int .i64 x).wf = true) (hy : (Lit.int .i64 y).wf = true) : ∃ kl, keyOf Tryd.prog 29 (spV x y) = some kl := by
  refine ⟨.string (keyBytes [.int .i64 x, .int .i64 y]), ?_⟩
  have h2 : (spV x y).formed Tryd.prog 29 = true := by simp [Value.formed, spV, Tryd.underlying29, cellsSpotE]
  obtain ⟨m, hm⟩ : ∃ m, Tryd.prog.types.size + 1 = m + 5 := ⟨Tryd.prog.types.size - 4, by have := manyTypesE; omega⟩
  have h3 : Tryd.prog.keyLits (Tryd.prog.types.size + 1) 29 (spV x y).cells.toList = some [.int .i64 x, .int .i64 y] := by
    rw [hm]
    simp [Program.keyLits, spV, Value.cells, Tryd.underlying29, Tryd.underlying2, cellsSpotE, cellsI64E, hx, hy]
    try rfl
  unfold keyOf
  rw [Tryd.underlying29]
  simp only [keyTypeSpot, h2, Bool.and_self, if_true, h3, Option.map_some]

/-- block b is a map with just the spots of xs, N of them -/
def SetS (w : World) (b m N : Nat) (xs : List (Int × Int)) : Prop :=
  ∃ D : DataW Unit, w.ownsMap Tryd.prog 29 (plainElem Tryd.prog 4) b m D ∧ Tidy D ∧ Maps.size D = N ∧
    ∀ x y kl, keyOf Tryd.prog 29 (spV x y) = some kl → D.atKey kl (.lit (.bool false)) = .lit (.bool (memB xs x y)) ∧ Maps.has D kl = memB xs x y
theorem SetS.made (w : World) : SetS (w.alloc (.map #[] 0)) w.heap.size 0 0 [] :=
  ⟨_, World.ownsMap_made w Tryd.prog _ _, tidy_empty, rfl, fun _ _ _ _ => ⟨rfl, rfl⟩⟩
theorem SetS.lt {w : World} {b m N : Nat} {xs : List (Int × Int)} (h : SetS w b m N xs) : b < w.heap.size := by
  obtain ⟨D, h1, _⟩ := h; exact h1.lt
theorem SetS.block {w w' : World} {b m N : Nat} {xs : List (Int × Int)} (h : SetS w b m N xs) (hb : w'.heap[b]? = w.heap[b]?) : SetS w' b m N xs := by
  obtain ⟨D, ⟨es, clock, h1, h2⟩, h3⟩ := h
  exact ⟨D, ⟨es, clock, hb.trans h1, h2⟩, h3⟩
theorem SetS.below {w w' : World} {b m N : Nat} {xs : List (Int × Int)} (h : SetS w b m N xs) (hb : Below w.heap.size w w') : SetS w' b m N xs :=
  h.block (hb.block b h.lt)
theorem SetS.look {w : World} {b m N : Nat} {xs : List (Int × Int)} {t : TypeId} (h : SetS w b m N xs) (ht : Tryd.prog.underlying t = some (.map 29 4)) {x y : Int} {kl : Lit} (hkey : keyOf Tryd.prog 29 (spV x y) = some kl) :
    (Instr.lookup t (.map (some b)) (spV x y) false).run Tryd.prog w = .ok (.bool (memB xs x y)) w := by
  obtain ⟨D, h1, _, _, h3⟩ := h
  obtain ⟨v, ps, hrun, hv⟩ := h1.lookup lawSpot ht (zeroBoolE w) (plainElem_bool Tryd.underlying4 false) hkey
  rw [(h3 _ _ _ hkey).1] at hv
  have : v = .bool (memB xs x y) := by
    unfold plainElem at hv
    rw [Tryd.underlying4] at hv
    cases v <;> simp at hv
    rw [hv.1]
  rw [this] at hrun
  exact hrun
theorem SetS.len {w : World} {b m N : Nat} {xs : List (Int × Int)} {t : TypeId} (h : SetS w b m N xs) (ht : Tryd.prog.underlying t = some (.map 29 4)) (ty : TypeId) : (Builtin.len_ #[t] ty #[.map (some b)]).run Tryd.prog w = .ok (.int .i64 (N : Int)) w := by
  obtain ⟨D, h1, _, h2, _⟩ := h
  have := h1.len ht ty
  rwa [h2] at this

theorem memB_snoc (xs : List (Int × Int)) (a c x y : Int) : memB (xs ++ [(a, c)]) x y = (memB xs x y || decide ((x, y) = (a, c))) := by
  unfold memB
  rw [Bool.eq_iff_iff]
  simp
/-- a spot is put into the set -/
theorem wpList_put_spot {w : World} {ops : Array Oper} {rest : List Oper} {o : Oper} {a : Act} {Q : Exit → Act → World → Prop} {t : TypeId}
    (hg : o.guard = none) (mm x v : Operand) (hop : o.op = Op.mapUpdate t mm x v) (ht : Tryd.prog.underlying t = some (.map 29 4))
    (b m N : Nat) (xs : List (Int × Int)) (hm : a.eval mm = .map (some b)) (hs : SetS w b m N xs) (hn : m < maxLen) (p q : Int) (hx : a.eval x = spV p q) (hv : a.eval v = .bool true) (hp : (Lit.int .i64 p).wf = true) (hq : (Lit.int .i64 q).wf = true)
    (N' : Nat) (hN' : N' = if (p, q) ∈ xs then N else N + 1)
    (hK : ∀ w', SetS w' b (m + 1) N' (xs ++ [(p, q)]) → w.grownBy w' (some b) → wpList Tryd.prog ops Q rest (a.put o.dst undef) w') :
    wpList Tryd.prog ops Q (o :: rest) a w := by
  subst hN'
  obtain ⟨D, h1, h2, h2', h3⟩ := hs
  obtain ⟨kl, hkey⟩ := keySpot p q hp hq
  refine wpList_mapUpdate_own w hg mm x v t hop 29 4 lawSpot ht (plainElem Tryd.prog 4) b m D hm h1 hn (spV p q) (.bool true) kl hx hv hkey (.lit (.bool true)) [] (plainElem_bool Tryd.underlying4 true) fun w' ho hgr => hK w' ⟨_, ho, h2.put (lawSpot.key hkey) _, ?_, fun u z ul hu => ?_⟩ hgr
  · rw [size_put h2, (h3 _ _ _ hkey).2, h2']
    unfold memB
    by_cases hm2 : (p, q) ∈ xs
    · simp [hm2]
    · simp [hm2]
  · rw [memB_snoc]
    by_cases hc : ul = kl
    · subst hc
      obtain ⟨rfl, rfl⟩ := spV_inj (lawSpot.inj hu hkey)
      rw [atKey_put_same h2.isMap (lawSpot.key hkey), has_put_same h2.isMap (lawSpot.key hkey)]
      simp
    · rw [atKey_put_other hc, has_put_other hc, (h3 _ _ _ hu).1, (h3 _ _ _ hu).2]
      have : ¬ (u, z) = (p, q) := fun h => hc (by
        obtain ⟨rfl, rfl⟩ := Prod.mk.inj h
        exact Option.some.inj (hu.symm.trans hkey))
      rw [decide_eq_false this, Bool.or_false]
      exact ⟨rfl, rfl⟩
end Go.Proofs.YtabkkpifkkgpeaaDoor

/- Contracts of single functions, and plain lemmas, on which the exact laws of this seat rest; each holds under the conditions that it states. -/
namespace Go.Proofs.YtabkkpifkkgpeaaDoor
set_option linter.unusedVariables false
set_option linter.unusedSimpArgs false
open Go.RowKit Go.Maps

theorem wfE {x : Int} (h1 : -9223372036854775808 ≤ x) (h2 : x ≤ 9223372036854775807) : (Lit.int .i64 x).wf = true := by
  have e1 : IntKind.i64.min = -9223372036854775808 := by decide
  have e2 : IntKind.i64.max = 9223372036854775807 := by decide
  simp [Lit.wf, e1, e2]
  omega

set_option maxHeartbeats 1000000 in
theorem hasS_any (b m N : Nat) (xs : List (Int × Int)) (x y : Int) (w : World) (hs : SetS w b m N xs) (hx : (Lit.int .i64 x).wf = true) (hy : (Lit.int .i64 y).wf = true) :
    Calls Tryd.prog 139 #[.map (some b), .agg #[.int .i64 x, .int .i64 y]] w (SaysB (memB xs x y) w) := by
  obtain ⟨kl, hkey⟩ := keySpot x y hx hy
  have hrun := (hs.below (Joins.below_alloc1 w (.cells #[.int .i64 x, .int .i64 y] 29))).look Tryd.underlying123 hkey
  obtain ⟨r, hr⟩ : ∃ r, memB xs x y = r := ⟨_, rfl⟩
  rw [hr] at hrun ⊢
  unfold spV at hrun
  clear hkey hr hs
  go_enter Tryd.func139, Tryd.ntmps139
  go_wp2
  go_ret
  exact ⟨rfl, Joins.below_alloc1 _ _⟩

/-- a variable is no map -/
theorem var_set {w w' : World} {P b m N : Nat} {t : TypeId} {cs : Array Value} {xs : List (Int × Int)} (h : w.heap[P]? = some (.cells cs t (0, 0))) (hs : SetS w b m N xs) (hg : w.grownBy w' (some b)) : w'.heap[P]? = some (.cells cs t (0, 0)) := by
  refine (hg.block P (Array.getElem?_eq_some_iff.1 h).1 fun e => ?_).trans h
  have e := Option.some.inj e
  subst e
  obtain ⟨D, ⟨es, clock, h1, _⟩, _⟩ := hs
  rw [h] at h1
  cases h1

/-- what offsetsOf hands back -/
def SaysSet (xs : List (Int × Int)) (w : World) (e : Ending) (w' : World) : Prop := ∃ b, e = .returned (.map (some b)) ∧ SetS w' b xs.length (dC xs xs.length) xs ∧ Below w.heap.size w w'

theorem take_more {xs : List (Int × Int)} {k : Nat} (h : k < xs.length) : xs.take (k + 1) = xs.take k ++ [((xs.getD k (0, 0)).1, (xs.getD k (0, 0)).2)] := by
  rw [List.take_add_one, List.getElem?_eq_getElem h, List.getD_eq_getElem?_getD, List.getElem?_eq_getElem h]; rfl

set_option maxHeartbeats 2000000 in
set_option maxRecDepth 100000 in
theorem offsetsOf_any (v : Value) (xs : List (Int × Int)) (w : World) (hN : xs.length ≤ 1048576) (hwf : ∀ p ∈ xs, (Lit.int .i64 p.1).wf = true ∧ (Lit.int .i64 p.2).wf = true) (hv : SlS w v xs) :
    Calls Tryd.prog 87 #[.agg #[v]] w (SaysSet xs w) := by
  have S0 : Hid (SetS ((w.alloc (.cells #[v] 46)).alloc (.map #[] 0)) (w.heap.size + 1) 0 0 []) := by
    have := SetS.made (w.alloc (.cells #[v] 46))
    rw [World.size_alloc] at this
    exact this
  have B0 := Lib.hid (Joins.below_alloc2 w (.cells #[v] 46) (.map #[] 0))
  rcases hv with ⟨ao, cap, rfl, rfl⟩ | ⟨b, cap, rfl, hpos, hb, hcs⟩
  · clear hwf
    have hmm := @run_makeMap Tryd.prog
    go_enter Tryd.func87, Tryd.ntmps87
    go_wp2
    refine wp_loop_rounds 1 ?_; rw [rounds_succ]
    go_wp2
    go_ret
    exact ⟨_, rfl, S0.out, B0.out⟩
  · have HC := Lib.hid hcs
    have HW : Hid (∀ k, k < xs.length → (Lit.int .i64 (xs.getD k (0, 0)).1).wf = true ∧ (Lit.int .i64 (xs.getD k (0, 0)).2).wf = true) := fun k hk => hwf _ (by rw [getD_of_lt hk]; exact List.getElem_mem hk)
    have HT := Lib.hid (fun k => @take_more xs k)
    have HD : Hid (∀ k, dC xs (k + 1) = if xs.getD k (0, 0) ∈ xs.take k then dC xs k else dC xs k + 1) := fun _ => rfl
    have HE : Hid (xs.take xs.length = xs) := List.take_length
    obtain ⟨n, hn⟩ : ∃ n, xs.length = n := ⟨_, rfl⟩
    have Hn := Lib.hid hn
    rw [hn] at HC HW HT HE hN hpos S0 B0
    unfold SaysSet
    rw [hn]
    clear hcs hwf hn
    have hmm := @run_makeMap Tryd.prog
    go_enter Tryd.func87, Tryd.ntmps87
    go_wp2
    go_loopw [10] (fun iv wr => ∃ k : Nat, k ≤ n ∧ iv = .int .i64 k ∧ Hid (SetS wr (w.heap.size + 1) k (dC xs k) (xs.take k)) ∧ Hid (Below w.heap.size w wr)) (fun iv _ => n - (intOf iv).toNat)
    case atStart => exact ⟨0, Nat.zero_le _, rfl, S0.out, B0.out⟩
    case round =>
      clear S0 B0
      obtain ⟨k, hk, rfl, HS, HB⟩ := hrel
      have hs := HB.out.size
      by_cases hlt : k < n
      · have klt : (k : Int) < (n : Int) := by omega
        have c0 := cell_kept HB.out (HC.out k hlt).1
        have c1 := cell_kept HB.out (HC.out k hlt).2
        have lb : b < wr.heap.size := by omega
        have hd := HD.out k
        have htk := HT.out k hlt
        have hw1 := HW.out k hlt
        rw [show xs.getD k (0, 0) = ((xs.getD k (0, 0)).1, (xs.getD k (0, 0)).2) from rfl] at hd
        obtain ⟨x, hx⟩ : ∃ x, (xs.getD k (0, 0)).1 = x := ⟨_, rfl⟩
        obtain ⟨y, hy⟩ : ∃ x, (xs.getD k (0, 0)).2 = x := ⟨_, rfl⟩
        rw [hx] at c0 hd htk hw1
        rw [hy] at c1 hd htk hw1
        have HDk := Lib.hid hd
        have HTk := Lib.hid htk
        have HWk := Lib.hid hw1
        have HS5 := Lib.hid (HS.out.below (Joins.below_alloc1 wr (.cells #[.int .i64 x, .int .i64 y] 29)))
        have HB5 := Lib.hid (HB.out.alloc hs (.cells #[.int .i64 x, .int .i64 y] 29))
        have hs5 := HB5.out.size
        clear hx hy hd htk hw1 HS HB
        go_wp2_with (at_mapUpdate; refine wpList_put_spot rfl _ _ _ rfl Tryd.underlying123 (w.heap.size + 1) k (dC xs k) (xs.take k) rfl HS5.out (by unfold maxLen; omega) x y rfl rfl HWk.out.1 HWk.out.2 _ HDk.out ?_)
        intro w3 s3 hg3
        rw [← HTk.out] at s3
        have S3 := Lib.hid s3
        have B3 := Lib.hid (HB5.out.grown hg3 hs5 (fun j hj => by cases hj; omega))
        clear s3 hg3
        go_wp2
        go_roundw
        case rel => exact ⟨k + 1, by omega, by go_num, S3.out, B3.out⟩
        case measure => simp [intOf]; omega
      · obtain rfl : k = n := by omega
        rw [HE.out] at HS
        go_wp2
        go_ret
        exact ⟨_, rfl, HS.out, HB.out⟩
end Go.Proofs.YtabkkpifkkgpeaaDoor
