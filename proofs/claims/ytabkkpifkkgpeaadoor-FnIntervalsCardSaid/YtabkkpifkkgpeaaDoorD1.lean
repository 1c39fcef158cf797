/- Contracts of single functions, and plain lemmas, on which the exact laws of this seat rest; each holds under the conditions that it states. -/
import Derived.Test.YtabkkpifkkgpeaaDoorA2
import Derived.Test.YtabkkpifkkgpeaaDoorPb
import Derived.Deep.QuietTactic
import Derived.BigQuiet
import Derived.Deep.RegionHeld3
import Derived.Test.YtabkkpifkkgpeaaDoorIs
namespace Go.Proofs.YtabkkpifkkgpeaaDoor
set_option linter.unusedVariables false
set_option linter.unusedSimpArgs false
open Go.RowKit Go.Shelf
attribute [local go_sem] Oper.semAt_some

set_option maxRecDepth 100000 in
set_option maxHeartbeats 4000000 in
theorem elementOf_Square (q : Nat) (f : Int → Int → Bool) (w : World)
    (hhas : ∀ (x : Off) (W : World), Below w.heap.size w W → Calls Tryd.prog 148 #[.agg #[.int .i64 x.1.1, .int .i64 x.1.2], .pointer (some ⟨q, 0, none⟩)] W (SaysB (f x.1.1 x.1.2) W)) :
    Calls Tryd.prog 137 #[.func (.func 148) #[] #[.pointer (some ⟨q, 0, none⟩)]] w (SaysEl (elL f) w) := by
  refine (callsIn_wide (n := 6)).1 ?_
  have HH := Lib.hid hhas
  clear hhas
  obtain ⟨i0, hi, hz0, hz1, hz2⟩ := info_parts infoSp
  refine callsIn_of_wp_marks Tryd.func137 rfl trivial ?_ rfl
  simp only [Tryd.ntmps137, List.size_toArray, List.length_cons, List.length_nil, Nat.reduceAdd, Nat.reduceSub, Array.replicate_succ, Array.replicate_zero, List.push_toArray, List.append_toArray, List.nil_append, List.cons_append]
  gi_wp2
  have bH := Boxed.new w 79 (.func (.func 148) #[] #[.pointer (some ⟨q, 0, none⟩)])
  have bR := Boxed.new (w.alloc (.cells #[.func (.func 148) #[] #[.pointer (some ⟨q, 0, none⟩)]] 79)) 46 (.slice none 0 0)
  have bE := Boxed.new ((w.alloc (.cells #[.func (.func 148) #[] #[.pointer (some ⟨q, 0, none⟩)]] 79)).alloc (.cells #[.slice none 0 0] 46)) 46 (.slice none 0 0)
  rw [World.size_alloc] at bR bE
  rw [World.size_alloc] at bE
  have hB0 : Below w.heap.size w (((w.alloc (.cells #[.func (.func 148) #[] #[.pointer (some ⟨q, 0, none⟩)]] 79)).alloc (.cells #[.slice none 0 0] 46)).alloc (.cells #[.slice none 0 0] 46)) := Joins.below_alloc3 _ _ _ _
  obtain ⟨W0, hW0⟩ : ∃ W0, (((w.alloc (.cells #[.func (.func 148) #[] #[.pointer (some ⟨q, 0, none⟩)]] 79)).alloc (.cells #[.slice none 0 0] 46)).alloc (.cells #[.slice none 0 0] 46)) = W0 := ⟨_, rfl⟩
  have hsz : W0.heap.size = w.heap.size + 3 := by rw [← hW0]; simp
  have bH0 : Boxed W0 w.heap.size 79 (.func (.func 148) #[] #[.pointer (some ⟨q, 0, none⟩)]) := by rw [← hW0]; exact (bH.alloc _).alloc _
  have bR0 : Boxed W0 (w.heap.size + 1) 46 (.slice none 0 0) := by rw [← hW0]; exact bR.alloc _
  rw [hW0] at hB0 bE ⊢
  clear bH bR hW0
  refine wpIn_rangeFunc_ownH rfl (by omega) (gf := 158) (lb := #[]) rfl trivial (enters_of Tryd.func158 (by kernel_rfl) rfl)
    (allOffsets_stops Fence.wide (6 - 1) trivial rfl (by omega) (Below w.heap.size) W0) belowK_t (belowK_b (by omega)) (Below.refl _ _) (fun _ => rfl)
    (fun pre W => ((Boxed W w.heap.size 79 (.func (.func 148) #[] #[.pointer (some ⟨q, 0, none⟩)]) ∧ Boxed W (w.heap.size + 1) 46 (.slice none 0 0)) ∧ (∃ v, Boxed W (w.heap.size + 1 + 1) 46 v ∧ W.ownsRow w.heap.size 29 2 v (selL f pre).length (flat2 (selL f pre)) ∧ (∃ ao m cap, v = .slice ao m cap))) ∧ Below w.heap.size w W)
    (fun _ _ _ => False)
    (OwnFrom.and (OwnFrom.and (OwnFrom.and (Own.from (boxed_own _ _ _) _) (Own.from (boxed_own _ _ _) _)) (Own.from (holdsRow_own w.heap.size (w.heap.size + 1 + 1) 46 29 2 (fun pre => (selL f pre).length) (fun pre => flat2 (selL f pre)) (fun _ v => ∃ ao m cap, v = .slice ao m cap)) _)) (ownFrom_below (Nat.le_refl _) (by omega)))
    (fun _ _ _ _ _ hs _ _ => hs)
    ⟨⟨⟨bH0, bR0⟩, ⟨_, bE, World.ownsRow_nil _ _ _ _, _, _, _, rfl⟩⟩, hB0⟩
    (fun x a' W => ∃ Bx, w.heap.size + 1 + 1 < Bx ∧ Two W Bx x ∧ a' = { tmps := #[.func (.func 148) #[] #[.pointer (some ⟨q, 0, none⟩)], .pointer (some ⟨w.heap.size, 0, none⟩), .pointer (some ⟨w.heap.size + 1, 0, none⟩), .pointer (some ⟨w.heap.size + 1 + 1, 0, none⟩), .pointer (some ⟨Bx, 0, none⟩), .agg #[.int .i64 x.1.1, .int .i64 x.1.2], undef, undef, undef, undef, undef, undef, undef, undef, undef, undef], defers := [] })
    (fun x a' s X Y row hs hg hrow => by
      obtain ⟨Bx, hBx, h2, he⟩ := hs
      exact ⟨Bx, hBx, Two.own Bx x () X Y row h2 hg (fun r e => (hrow r e).2), he⟩)
    ?assign ?body ?done ?stop
  case assign =>
    rintro l pre x W K ⟨⟨⟨b1, b2⟩, v, b3, hrow, hv⟩, hB⟩ hK
    have hs := hB.size
    have hlt := b3.lt
    simp only [encO]
    gi_wp2
    exact hK _ _ ((KeepsOthers.alloc _ _).from _) ((Below.refl _ W).alloc hs _) ⟨⟨⟨b1.alloc _, b2.alloc _⟩, v, b3.alloc _, hrow.alloc _, hv⟩, hB.alloc hs _⟩ ⟨W.heap.size, hlt, heap_alloc_last W _, rfl⟩
  case body =>
    rintro l pre x a' W hl _ ⟨⟨⟨b1, b2⟩, v, b3, hrow, ao, m, cap, rfl⟩, hB⟩ ⟨Bx, hBx, h2, rfl⟩ hlt
    have hs := hB.size
    have hlt3 := b3.lt
    have hltx := h2.lt
    have c1 := b1.cell
    have x0 := h2.c0
    have x1 := h2.c1
    have hC := Lib.hid (HH.out x W hB)
    have HRow := Lib.hid hrow
    have hlen := selL_len f pre
    clear hrow HH
    obtain ⟨xa, hxa⟩ : ∃ t, x.1.1 = t := ⟨_, rfl⟩
    obtain ⟨xb, hxb⟩ : ∃ t, x.1.2 = t := ⟨_, rfl⟩
    rw [hxa, hxb] at hC ⊢
    rw [hxa] at x0
    rw [hxb] at x1
    cases hf : f xa xb with
    | true =>
      rw [hf] at hC
      have hsel := selL_hit f pre (x := x) (by rw [hxa, hxb]; exact hf)
      rw [hxa, hxb] at hsel
      have HSel := Lib.hid hsel
      obtain ⟨L, hL⟩ : ∃ L, selL f pre = L := ⟨_, rfl⟩
      rw [hL] at HRow HSel hlen
      have hlen2 : L.length ≤ 81 := by omega
      clear hsel hL hlen hf
      gi_wp2_with (refine ⟨trivial, ?_⟩; gi_at_call 148; refine (CallsIn.inRound l (callsIn_wide.2 hC.out)).mono ?_; rintro e w' ⟨rfl, hb⟩; refine Hid.out ?_)
      have hs' := hb.size
      have b1w := Boxed.below' b1 hb
      have b2w := Boxed.below' b2 hb
      have b3w := Boxed.below' b3 hb
      have h2w := h2.below hb
      have hroww := own_below HRow.out hb
      have hBw := hB.trans (hb.mono hs)
      have hsw := hBw.size
      have hc := b3w.cell
      have y0 := h2w.c0
      have y1 := h2w.c1
      have hltw := h2w.lt
      have hlt3w := b3w.lt
      rw [hxa] at y0
      rw [hxb] at y1
      clear x0 x1 c1 hC
      refine Lib.hid ?_
      gi_wp2_with (gi_at_builtin; refine wpListIn_append_own _ rfl _ _ 44 rfl w.heap.size 29 i0 (.agg #[.int .i64 0, .int .i64 0]) 2 16 Tryd.underlying44 hi hz0 hz1 hz2 rfl (by decide) _ _ _ rfl (hroww.alloc _) ⟨w'.heap.size, 0, none⟩ 1 1 [.int .i64 xa, .int .i64 xb] rfl rfl (two_cells_new _ _ _ _) (by intro u hu; simp at hu; rcases hu with rfl | rfl <;> rfl) (by unfold maxLen; omega) (by omega) (by simp; omega) ?_; intro v' w1 hown' hgrow _; obtain ⟨g', cap', rfl⟩ := ownsRow_succ hown'; obtain ⟨hv1, hv2, hr2, hk2, hb2⟩ := b3w.appended (by decide) hroww hsw (by omega) hown' hgrow; have hc1 := hv1.cell; have hf1 := hv1.frozen)
      refine ⟨(keeps_below _ hb).trans (hk2.from _), (hb.mono hs).trans hb2, ⟨⟨⟨((b1w.alloc _).kept hgrow (b1w.not_row (by decide) hroww)).other (by omega) _, ((b2w.alloc _).kept hgrow (b2w.not_row (by decide) hroww)).other (by omega) _⟩, _, hv2, ?_, _, _, _, rfl⟩, hBw.trans hb2⟩⟩
      rw [HSel.out, flat2_snoc, List.length_append]
      exact hr2
    | false =>
      rw [hf] at hC
      have hsel := selL_miss f pre (x := x) (by rw [hxa, hxb]; exact hf)
      gi_wp2_with (refine ⟨trivial, ?_⟩; gi_at_call 148; refine (CallsIn.inRound l (callsIn_wide.2 hC.out)).mono ?_; rintro e w' ⟨rfl, hb⟩)
      refine ⟨keeps_below _ hb, hb.mono hs, ⟨⟨⟨Boxed.below' b1 hb, Boxed.below' b2 hb⟩, _, Boxed.below' b3 hb, ?_, _, _, _, rfl⟩, hB.trans (hb.mono hs)⟩⟩
      rw [hsel]
      exact own_below HRow.out hb
  case done =>
    rintro D ys W hD rfl ⟨⟨⟨b1, b2⟩, v, b3, hrow, ao, m, cap, rfl⟩, hB⟩ hK
    have hc := b3.cell
    have hc2 := b2.cell
    have hf2 := b2.frozen
    gi_wp2
    have hK' : (W.setCell ⟨w.heap.size + 1, 0, none⟩ (.slice ao m cap)).heap[D]? = some (.deferred (some [])) := (KeepsOthers.setCell W ⟨w.heap.size + 1, 0, none⟩ (.slice ao m cap)).same D _ hK rfl
    have hR : Boxed ((W.setCell ⟨w.heap.size + 1, 0, none⟩ (.slice ao m cap)).putObj D (.deferred none)) (w.heap.size + 1) 46 (.slice ao m cap) := (b2.set _).kept (grownBy_putObj' _ D _) (by intro e; have := Option.some.inj e; omega)
    refine ⟨by simp, .inl ⟨_, _, rfl, run_takeDeferred hK', ?_⟩⟩
    refine ⟨_, results_cell1 (p := 2) (ty := 46) Tryd.results137 _ _ (w.heap.size + 1) 46 #[.slice ao m cap] (0, 0) _ rfl hR Tryd.underlying46 rfl infoEl, ao, m, cap, rfl, ?_, ?_⟩
    · exact ownsRow_putObj (hrow.kept (grownBy_setCell' W (w.heap.size + 1) _) (.inr (b2.not_row (by decide) hrow).symm)) _ hK' rfl
    · exact (hB.setCell (p := ⟨w.heap.size + 1, 0, none⟩) (by simp) _).trans (belowK_b (w := w) (Nat.le_refl _) _ D _ _ (by omega) hK' rfl rfl)
  case stop =>
    rintro D c pre W _ _ h _
    exact h.elim
end Go.Proofs.YtabkkpifkkgpeaaDoor

/- Contracts of single functions, and plain lemmas, on which the exact laws of this seat rest; each holds under the conditions that it states. -/
namespace Go.Proofs.YtabkkpifkkgpeaaDoor
set_option linter.unusedVariables false
set_option linter.unusedSimpArgs false
open Go.RowKit

/-- an element and a bool handed back -/
def SaysElB (xs : List (Int × Int)) (ok : Bool) (w : World) (e : Ending) (w' : World) : Prop :=
  ∃ ao n cap, e = .returned (.tuple #[.agg #[.slice ao n cap], .bool ok]) ∧ OwnS w' w.heap.size (.slice ao n cap) xs ∧ Below w.heap.size w w'

/-- the rule of a square -/
def sqF (size x y : Int) : Bool := decide (0 ≤ min x y) && decide (max x y < size)

set_option maxHeartbeats 1000000 in
theorem square1_any (x y size : Int) (q : Nat) (w : World) (hq : w.cell? ⟨q, 0, none⟩ = some (.int .i64 size)) :
    Calls Tryd.prog 148 #[.agg #[.int .i64 x, .int .i64 y], .pointer (some ⟨q, 0, none⟩)] w (SaysB (sqF size x y) w) := by
  have hl := blk_lt hq
  go_enter Tryd.func148, Tryd.ntmps148
  go_wp2
  all_goals go_ret
  all_goals exact ⟨ret_bool (by unfold sqF; rw [Bool.eq_iff_iff, Bool.and_eq_true]; simp only [decide_eq_true_eq, true_iff, false_iff, Bool.false_eq_true]; omega), Joins.below_alloc1 _ _⟩

set_option maxHeartbeats 1000000 in
theorem impl_Square_yes (size : Int) (w : World) (h : 1 ≤ size ∧ size ≤ 5) : Calls Tryd.prog 105 #[.int .i64 size] w (SaysElB (elL (sqF size)) true w) := by
  have hq : Hid (((w.alloc (.cells #[.int .i64 size] 2)).alloc (.cells #[.slice none 0 0] 46)).cell? ⟨w.heap.size, 0, none⟩ = some (.int .i64 size)) := cell_kept (Joins.below_alloc1 _ _) (cell_of_one (heap_alloc_last w _))
  have hR0 := heap_alloc_last (w.alloc (.cells #[.int .i64 size] 2)) (.cells #[.slice none 0 0] 46)
  rw [World.size_alloc] at hR0
  have HB0 := Lib.hid (Joins.below_alloc2 w (.cells #[.int .i64 size] 2) (.cells #[.slice none 0 0] 46))
  have C := Lib.hid (elementOf_Square w.heap.size (sqF size) ((w.alloc (.cells #[.int .i64 size] 2)).alloc (.cells #[.slice none 0 0] 46)) (fun x W hb => square1_any _ _ size _ W (cell_kept hb hq.out)))
  have HR0 := Lib.hid hR0
  clear hR0
  have h1 := h.1
  have h2 := h.2
  have hs0 : ((w.alloc (.cells #[.int .i64 size] 2)).alloc (.cells #[.slice none 0 0] 46)).heap.size = w.heap.size + 1 + 1 := by simp
  go_enter Tryd.func105, Tryd.ntmps105
  go_wp2_with fail
  refine C.out.mono ?_
  rintro e w2 ⟨ao, n, cap, rfl, hown, hb⟩
  have hp2 := (hb.block (w.heap.size + 1) (by rw [hs0]; omega)).trans HR0.out
  have hfr : w2.frozen? ⟨w.heap.size + 1, 0, none⟩ = false := free_of_one hp2
  have hc2 : w2.cell? ⟨w.heap.size + 1, 0, none⟩ = some (.slice none 0 0) := cell_of_one hp2
  have O2 := Lib.hid (own_set (u := .slice ao n cap) hown hp2 (by decide))
  have P2 := Lib.hid hp2
  have B2 := Lib.hid (HB0.out.trans (hb.mono (by rw [hs0]; omega)))
  clear hown hp2 hb
  go_wp2_with fail
  refine bodyPost_ret (v := .tuple #[.agg #[.slice ao n cap], .bool true]) (by simp [results, Tryd.results105, go_sem, cell_of_one (one_setCell P2.out)]) rfl ⟨_, _, _, rfl, Joins.ownsRow_le O2.out (by rw [hs0]; omega), B2.out.setCell (by simp) _⟩

set_option maxHeartbeats 1000000 in
theorem impl_Square_no (size : Int) (w : World) (h : ¬ (1 ≤ size ∧ size ≤ 5)) : Calls Tryd.prog 105 #[.int .i64 size] w (SaysElB [] false w) := by
  have hR0 := heap_alloc_last (w.alloc (.cells #[.int .i64 size] 2)) (.cells #[.slice none 0 0] 46)
  rw [World.size_alloc] at hR0
  have HR0 := Lib.hid hR0
  have HB0 := Lib.hid (Joins.below_alloc2 w (.cells #[.int .i64 size] 2) (.cells #[.slice none 0 0] 46))
  clear hR0
  by_cases h1 : size < 1
  · clear h
    go_enter Tryd.func105, Tryd.ntmps105
    go_wp2_with fail
    refine bodyPost_ret (v := .tuple #[.agg #[.slice none 0 0], .bool false]) (by simp [results, Tryd.results105, go_sem, cell_of_one HR0.out]) rfl ⟨_, _, _, rfl, World.ownsRow_nil _ _ _ _, HB0.out⟩
  · have h2 : 5 < size := by omega
    clear h
    go_enter Tryd.func105, Tryd.ntmps105
    go_wp2_with fail
    refine bodyPost_ret (v := .tuple #[.agg #[.slice none 0 0], .bool false]) (by simp [results, Tryd.results105, go_sem, cell_of_one HR0.out]) rfl ⟨_, _, _, rfl, World.ownsRow_nil _ _ _ _, HB0.out⟩
end Go.Proofs.YtabkkpifkkgpeaaDoor

/- Contracts of single functions, and plain lemmas, on which the exact laws of this seat rest; each holds under the conditions that it states. -/
namespace Go.Proofs.YtabkkpifkkgpeaaDoor
set_option linter.unusedVariables false
set_option linter.unusedSimpArgs false
open Go.RowKit

/-- the first k places of a square from o on that a rule allows -/
def grL (n : Nat) (o : Int) (f : Int → Int → Bool) (k : Nat) : List (Int × Int) := (List.range k).filterMap fun i => if f (((i % n : Nat) : Int) + o) (((i / n : Nat) : Int) + o) then some (((i % n : Nat) : Int) + o, ((i / n : Nat) : Int) + o) else none
theorem grL_len (n : Nat) (o : Int) (f : Int → Int → Bool) (k : Nat) : (grL n o f k).length ≤ k := by
  unfold grL
  have := List.length_filterMap_le (fun i => if f (((i % n : Nat) : Int) + o) (((i / n : Nat) : Int) + o) then some (((i % n : Nat) : Int) + o, ((i / n : Nat) : Int) + o) else none) (List.range k)
  simpa using this
theorem grL_snoc (n : Nat) (o : Int) (f : Int → Int → Bool) (y x : Nat) (hx : x < n) : grL n o f (y * n + x + 1) = grL n o f (y * n + x) ++ (if f ((x : Int) + o) ((y : Int) + o) then [((x : Int) + o, (y : Int) + o)] else []) := by
  have h1 : (y * n + x) / n = y := by rw [Nat.mul_comm, Nat.mul_add_div (by omega), Nat.div_eq_of_lt hx, Nat.add_zero]
  have h2 : (y * n + x) % n = x := by rw [Nat.mul_comm, Nat.mul_add_mod, Nat.mod_eq_of_lt hx]
  unfold grL
  rw [List.range_succ, List.filterMap_append]
  congr 1
  simp only [List.filterMap_cons, List.filterMap_nil, h1, h2]
  split <;> simp_all
theorem grL_zero (n : Nat) (o : Int) (f : Int → Int → Bool) : grL n o f 0 = [] := rfl

/-- an element that is being made in a variable; the result's variable -/
structure ElSt (w W : World) (R B : Nat) (v : Value) (L : List (Int × Int)) : Prop where
  r : W.heap[R]? = some (.cells #[.slice none 0 0] 46 (0, 0))
  b : W.heap[B]? = some (.cells #[v] 46 (0, 0))
  own : OwnS W w.heap.size v L
  bel : Below w.heap.size w W
  geB : w.heap.size ≤ B
  geR : w.heap.size ≤ R
  ne : R ≠ B
section
variable {w W W' : World} {R B : Nat} {v : Value} {L : List (Int × Int)}
theorem ElSt.below (h : ElSt w W R B v L) (hb : Below W.heap.size W W') : ElSt w W' R B v L :=
  ⟨(hb.block R (Array.getElem?_eq_some_iff.1 h.r).1).trans h.r, (hb.block B (Array.getElem?_eq_some_iff.1 h.b).1).trans h.b, own_below h.own hb, h.bel.trans (hb.mono h.bel.size), h.geB, h.geR, h.ne⟩
theorem ElSt.appended {w1 : World} {v' : Value} (h : ElSt w W R B v L) (a b : Int)
    (hown' : w1.ownsRow w.heap.size 29 2 v' (L.length + 1) (flat2 L ++ [.int .i64 a, .int .i64 b]))
    (hgr : (W.alloc (.cells #[.int .i64 a, .int .i64 b] 29)).grownBy w1 v.ownBlock) :
    w1.heap[B]? = some (.cells #[v] 46 (0, 0)) ∧ ElSt w (w1.setCell ⟨B, 0, none⟩ v') R B v' (L ++ [(a, b)]) := by
  have hB : Boxed W B 46 v := h.b
  have hR : Boxed W R 46 (.slice none 0 0) := h.r
  obtain ⟨h1, h2, h3, _, h5⟩ := hB.appended (by decide) h.own h.bel.size h.geB hown' hgr
  refine ⟨h1, ((hR.alloc _).kept hgr (hR.not_row (by decide) h.own)).other h.ne _, h2, ?_, h.bel.trans h5, h.geB, h.geR, h.ne⟩
  unfold OwnS
  rw [flat2_snoc, List.length_append]
  exact h3
theorem ElSt.start (w : World) : ElSt w (((w.alloc (.cells #[.slice none 0 0] 46)).alloc (.cells #[] 29)).alloc (.cells #[.slice (some ⟨w.heap.size + 1, 0, none⟩) 0 0] 46)) w.heap.size (w.heap.size + 1 + 1) (.slice (some ⟨w.heap.size + 1, 0, none⟩) 0 0) [] := by
  refine ⟨?_, ?_, ?_, Joins.below_alloc3 _ _ _ _, by omega, Nat.le_refl _, by omega⟩
  · rw [Below.heap_alloc _ _ _ (by simp; omega), Below.heap_alloc _ _ _ (by simp)]
    exact heap_alloc_last w _
  · have := heap_alloc_last ((w.alloc (.cells #[.slice none 0 0] 46)).alloc (.cells #[] 29)) (.cells #[.slice (some ⟨w.heap.size + 1, 0, none⟩) 0 0] 46)
    simp only [World.size_alloc] at this
    exact this
  · have := World.ownsRow_lit (base := w.heap.size) (e := 29) (size := 2) (w.alloc (.cells #[.slice none 0 0] 46)) #[] 0 (by simp) (by unfold maxLen; omega) rfl
    rw [World.size_alloc] at this
    exact World.ownsRow.alloc this _
theorem ElSt.own_out (h : ElSt w W R B v L) (u : Value) : OwnS (W.setCell ⟨R, 0, none⟩ u) w.heap.size v L := own_set (u := u) h.own h.r (by decide)
theorem ElSt.cell (h : ElSt w W R B v L) : W.cell? ⟨B, 0, none⟩ = some v := cell_of_one h.b
theorem ElSt.fr (h : ElSt w W R B v L) : W.frozen? ⟨B, 0, none⟩ = false := free_of_one h.b
theorem ElSt.cellR (h : ElSt w W R B v L) : W.cell? ⟨R, 0, none⟩ = some (.slice none 0 0) := cell_of_one h.r
theorem ElSt.frR (h : ElSt w W R B v L) : W.frozen? ⟨R, 0, none⟩ = false := free_of_one h.r
theorem ElSt.ltB (h : ElSt w W R B v L) : B < W.heap.size := (Array.getElem?_eq_some_iff.1 h.b).1
end

end Go.Proofs.YtabkkpifkkgpeaaDoor

/- Contracts of single functions, and plain lemmas, on which the exact laws of this seat rest; each holds under the conditions that it states. -/
namespace Go.Proofs.YtabkkpifkkgpeaaDoor
set_option linter.unusedVariables false
set_option linter.unusedSimpArgs false
open Go.RowKit

def absI (x : Int) : Int := max x (-x)
theorem absI_range (x : Int) (h : -100 ≤ x ∧ x ≤ 100) : 0 ≤ absI x ∧ absI x ≤ 100 := by unfold absI; omega
theorem absolute_any (x : Int) (w : World) (h : -100 ≤ x ∧ x ≤ 100) : Calls Tryd.prog 125 #[.int .i64 x] w fun e w' => e = .returned (.int .i64 (absI x)) ∧ w = w' := by
  go_enter Tryd.func125, Tryd.ntmps125
  go_wp2
  all_goals go_ret
  all_goals exact ⟨ret_int (by unfold absI; omega), rfl⟩

/-- the rule of a cross -/
def crF (r x y : Int) : Bool := decide (absI x + absI y ≤ r)

end Go.Proofs.YtabkkpifkkgpeaaDoor

/- Contracts of single functions, and plain lemmas, on which the exact laws of this seat rest; each holds under the conditions that it states. -/
namespace Go.Proofs.YtabkkpifkkgpeaaDoor
set_option linter.unusedVariables false
set_option linter.unusedSimpArgs false
open Go.RowKit

/-! ### distances -/
def farI (k ax ay bx b_y : Int) : Int := if k = 0 then absI (ax - bx) + absI (ay - b_y) else if k = 1 then max (absI (ax - bx)) (absI (ay - b_y)) else absI (ax - bx) * absI (ax - bx) + absI (ay - b_y) * absI (ay - b_y)
def Small (x : Int) : Prop := -40 ≤ x ∧ x ≤ 40
theorem sq_range (a : Int) (h : 0 ≤ a ∧ a ≤ 100) : 0 ≤ a * a ∧ a * a ≤ 10000 := ⟨Int.mul_nonneg h.1 h.1, by have := Int.mul_le_mul h.2 h.2 h.1 (by omega); omega⟩

set_option maxHeartbeats 2000000 in
set_option maxRecDepth 100000 in
theorem between_any (k ax ay bx b_y : Int) (w : World) (h1 : Small ax) (h2 : Small ay) (h3 : Small bx) (h4 : Small b_y) :
    Calls Tryd.prog 60 #[.int .i64 k, .agg #[.int .i64 ax, .int .i64 ay], .agg #[.int .i64 bx, .int .i64 b_y]] w fun e w' => e = .returned (.int .i64 (farI k ax ay bx b_y)) ∧ Below w.heap.size w w' := by
  unfold Small at h1 h2 h3 h4
  have CA := Lib.hid (fun (z : Int) (hz : -100 ≤ z ∧ z ≤ 100) W => absolute_any z W hz)
  have r1 := absI_range (ax - bx) (by omega)
  have r2 := absI_range (ay - b_y) (by omega)
  have C1 := Lib.hid (fun W => CA.out (ax - bx) (by omega) W)
  have C2 := Lib.hid (fun W => CA.out (ay - b_y) (by omega) W)
  have HF : Hid (farI k ax ay bx b_y = if k = 0 then absI (ax - bx) + absI (ay - b_y) else if k = 1 then max (absI (ax - bx)) (absI (ay - b_y)) else absI (ax - bx) * absI (ax - bx) + absI (ay - b_y) * absI (ay - b_y)) := rfl
  obtain ⟨p, hp⟩ : ∃ p, absI (ax - bx) = p := ⟨_, rfl⟩
  obtain ⟨q, hq⟩ : ∃ q, absI (ay - b_y) = q := ⟨_, rfl⟩
  rw [hp] at HF r1 C1
  rw [hq] at HF r2 C2
  have s1 := sq_range p r1
  have s2 := sq_range q r2
  clear hp hq CA
  go_enter Tryd.func60, Tryd.ntmps60
  go_wp2_with fail
  go_quiet ((go_at_call 125; first | exact Calls.quiet_of_same ((C1.out _).mono fun e w' ⟨he, hw⟩ => ⟨he, hw.symm⟩) | exact Calls.quiet_of_same ((C2.out _).mono fun e w' ⟨he, hw⟩ => ⟨he, hw.symm⟩)))
  have HB := Lib.hid ((Joins.below_alloc2 w (.cells #[.int .i64 ax, .int .i64 ay] 29) (.cells #[.int .i64 bx, .int .i64 b_y] 29)).trans (Joins.below_draws w.heap.size _ nq))
  clear C1 C2
  by_cases hk0 : k = 0
  · subst hk0
    have HR : Hid (farI 0 ax ay bx b_y = p + q) := HF.out
    clear HF
    go_wp2_with fail
    go_ret
    exact ⟨ret_int HR.out.symm, HB.out⟩
  · by_cases hk1 : k = 1
    · subst hk1
      have HR : Hid (farI 1 ax ay bx b_y = max p q) := HF.out
      clear HF
      go_wp2_with fail
      all_goals go_ret
      all_goals exact ⟨ret_int (by rw [HR.out] <;> omega), HB.out⟩
    · have HR : Hid (farI k ax ay bx b_y = p * p + q * q) := by show _ = _; rw [HF.out, if_neg hk0, if_neg hk1]
      clear HF
      go_wp2_with fail
      go_ret
      exact ⟨ret_int HR.out.symm, HB.out⟩
end Go.Proofs.YtabkkpifkkgpeaaDoor
