/- Contracts of single functions, and plain lemmas, on which the exact laws of this seat rest; each holds under the conditions that it states. -/
import Derived.Test.YtabkkpifkkgpeaaDoorAh
import Derived.Test.YtabkkpifkkgpeaaDoorAn
namespace Go.Proofs.YtabkkpifkkgpeaaDoor
set_option linter.unusedVariables false
set_option linter.unusedSimpArgs false
open Go.RowKit Go.Shelf
attribute [local go_sem] Oper.semAt_some

set_option maxRecDepth 100000 in
set_option maxHeartbeats 4000000 in
theorem elementOf_Mir (q : Nat) (f : Int → Int → Bool) (w : World)
    (hhas : ∀ (x : Off) (W : World), Below w.heap.size w W → Calls Tryd.prog 138 #[.agg #[.int .i64 x.1.1, .int .i64 x.1.2], .pointer (some ⟨q, 0, none⟩)] W (SaysB (f x.1.1 x.1.2) W)) :
    Calls Tryd.prog 137 #[.func (.func 138) #[] #[.pointer (some ⟨q, 0, none⟩)]] w (SaysEl (elL f) w) := by
  refine (callsIn_wide (n := 6)).1 ?_
  have HH := Lib.hid hhas
  clear hhas
  obtain ⟨i0, hi, hz0, hz1, hz2⟩ := info_parts infoSp
  refine callsIn_of_wp_marks Tryd.func137 rfl trivial ?_ rfl
  simp only [Tryd.ntmps137, List.size_toArray, List.length_cons, List.length_nil, Nat.reduceAdd, Nat.reduceSub, Array.replicate_succ, Array.replicate_zero, List.push_toArray, List.append_toArray, List.nil_append, List.cons_append]
  gi_wp2
  have bH := Boxed.new w 79 (.func (.func 138) #[] #[.pointer (some ⟨q, 0, none⟩)])
  have bR := Boxed.new (w.alloc (.cells #[.func (.func 138) #[] #[.pointer (some ⟨q, 0, none⟩)]] 79)) 46 (.slice none 0 0)
  have bE := Boxed.new ((w.alloc (.cells #[.func (.func 138) #[] #[.pointer (some ⟨q, 0, none⟩)]] 79)).alloc (.cells #[.slice none 0 0] 46)) 46 (.slice none 0 0)
  rw [World.size_alloc] at bR bE
  rw [World.size_alloc] at bE
  have hB0 : Below w.heap.size w (((w.alloc (.cells #[.func (.func 138) #[] #[.pointer (some ⟨q, 0, none⟩)]] 79)).alloc (.cells #[.slice none 0 0] 46)).alloc (.cells #[.slice none 0 0] 46)) := Joins.below_alloc3 _ _ _ _
  obtain ⟨W0, hW0⟩ : ∃ W0, (((w.alloc (.cells #[.func (.func 138) #[] #[.pointer (some ⟨q, 0, none⟩)]] 79)).alloc (.cells #[.slice none 0 0] 46)).alloc (.cells #[.slice none 0 0] 46)) = W0 := ⟨_, rfl⟩
  have hsz : W0.heap.size = w.heap.size + 3 := by rw [← hW0]; simp
  have bH0 : Boxed W0 w.heap.size 79 (.func (.func 138) #[] #[.pointer (some ⟨q, 0, none⟩)]) := by rw [← hW0]; exact (bH.alloc _).alloc _
  have bR0 : Boxed W0 (w.heap.size + 1) 46 (.slice none 0 0) := by rw [← hW0]; exact bR.alloc _
  rw [hW0] at hB0 bE ⊢
  clear bH bR hW0
  refine wpIn_rangeFunc_ownH rfl (by omega) (gf := 158) (lb := #[]) rfl trivial (enters_of Tryd.func158 (by kernel_rfl) rfl)
    (allOffsets_stops Fence.wide (6 - 1) trivial rfl (by omega) (Below w.heap.size) W0) belowK_t (belowK_b (by omega)) (Below.refl _ _) (fun _ => rfl)
    (fun pre W => ((Boxed W w.heap.size 79 (.func (.func 138) #[] #[.pointer (some ⟨q, 0, none⟩)]) ∧ Boxed W (w.heap.size + 1) 46 (.slice none 0 0)) ∧ (∃ v, Boxed W (w.heap.size + 1 + 1) 46 v ∧ W.ownsRow w.heap.size 29 2 v (selL f pre).length (flat2 (selL f pre)) ∧ (∃ ao m cap, v = .slice ao m cap))) ∧ Below w.heap.size w W)
    (fun _ _ _ => False)
    (OwnFrom.and (OwnFrom.and (OwnFrom.and (Own.from (boxed_own _ _ _) _) (Own.from (boxed_own _ _ _) _)) (Own.from (holdsRow_own w.heap.size (w.heap.size + 1 + 1) 46 29 2 (fun pre => (selL f pre).length) (fun pre => flat2 (selL f pre)) (fun _ v => ∃ ao m cap, v = .slice ao m cap)) _)) (ownFrom_below (Nat.le_refl _) (by omega)))
    (fun _ _ _ _ _ hs _ _ => hs)
    ⟨⟨⟨bH0, bR0⟩, ⟨_, bE, World.ownsRow_nil _ _ _ _, _, _, _, rfl⟩⟩, hB0⟩
    (fun x a' W => ∃ Bx, w.heap.size + 1 + 1 < Bx ∧ Two W Bx x ∧ a' = { tmps := #[.func (.func 138) #[] #[.pointer (some ⟨q, 0, none⟩)], .pointer (some ⟨w.heap.size, 0, none⟩), .pointer (some ⟨w.heap.size + 1, 0, none⟩), .pointer (some ⟨w.heap.size + 1 + 1, 0, none⟩), .pointer (some ⟨Bx, 0, none⟩), .agg #[.int .i64 x.1.1, .int .i64 x.1.2], undef, undef, undef, undef, undef, undef, undef, undef, undef, undef], defers := [] })
    (fun x a' s X Y row hs hg hrow => by
      obtain ⟨Bx, hBx, h2, he⟩ := hs
      exact ⟨Bx, hBx, Two.own Bx x () X Y row h2 hg (fun r e => (hrow r e).2), he⟩)
    ?assign ?body ?done ?stop
  case assign =>
    rintro l pre x W K ⟨⟨⟨b1, b2⟩, v, b3, hrow, hv⟩, hB⟩ hK
    have hs := hB.size
    have hlt := b3.lt
    simp only [encO]
    gi_wp2
    exact hK _ _ ((KeepsOthers.alloc _ _).from _) ((Below.refl _ W).alloc hs _) ⟨⟨⟨b1.alloc _, b2.alloc _⟩, v, b3.alloc _, hrow.alloc _, hv⟩, hB.alloc hs _⟩ ⟨W.heap.size, hlt, heap_alloc_last W _, rfl⟩
  case body =>
    rintro l pre x a' W hl _ ⟨⟨⟨b1, b2⟩, v, b3, hrow, ao, m, cap, rfl⟩, hB⟩ ⟨Bx, hBx, h2, rfl⟩ hlt
    have hs := hB.size
    have hlt3 := b3.lt
    have hltx := h2.lt
    have c1 := b1.cell
    have x0 := h2.c0
    have x1 := h2.c1
    have hC := Lib.hid (HH.out x W hB)
    have HRow := Lib.hid hrow
    have hlen := selL_len f pre
    clear hrow HH
    obtain ⟨xa, hxa⟩ : ∃ t, x.1.1 = t := ⟨_, rfl⟩
    obtain ⟨xb, hxb⟩ : ∃ t, x.1.2 = t := ⟨_, rfl⟩
    rw [hxa, hxb] at hC ⊢
    rw [hxa] at x0
    rw [hxb] at x1
    cases hf : f xa xb with
    | true =>
      rw [hf] at hC
      have hsel := selL_hit f pre (x := x) (by rw [hxa, hxb]; exact hf)
      rw [hxa, hxb] at hsel
      have HSel := Lib.hid hsel
      obtain ⟨L, hL⟩ : ∃ L, selL f pre = L := ⟨_, rfl⟩
      rw [hL] at HRow HSel hlen
      have hlen2 : L.length ≤ 81 := by omega
      clear hsel hL hlen hf
      gi_wp2_with (refine ⟨trivial, ?_⟩; gi_at_call 138; refine (CallsIn.inRound l (callsIn_wide.2 hC.out)).mono ?_; rintro e w' ⟨rfl, hb⟩; refine Hid.out ?_)
      have hs' := hb.size
      have b1w := Boxed.below' b1 hb
      have b2w := Boxed.below' b2 hb
      have b3w := Boxed.below' b3 hb
      have h2w := h2.below hb
      have hroww := own_below HRow.out hb
      have hBw := hB.trans (hb.mono hs)
      have hsw := hBw.size
      have hc := b3w.cell
      have y0 := h2w.c0
      have y1 := h2w.c1
      have hltw := h2w.lt
      have hlt3w := b3w.lt
      rw [hxa] at y0
      rw [hxb] at y1
      clear x0 x1 c1 hC
      refine Lib.hid ?_
      gi_wp2_with (gi_at_builtin; refine wpListIn_append_own _ rfl _ _ 44 rfl w.heap.size 29 i0 (.agg #[.int .i64 0, .int .i64 0]) 2 16 Tryd.underlying44 hi hz0 hz1 hz2 rfl (by decide) _ _ _ rfl (hroww.alloc _) ⟨w'.heap.size, 0, none⟩ 1 1 [.int .i64 xa, .int .i64 xb] rfl rfl (two_cells_new _ _ _ _) (by intro u hu; simp at hu; rcases hu with rfl | rfl <;> rfl) (by unfold maxLen; omega) (by omega) (by simp; omega) ?_; intro v' w1 hown' hgrow _; obtain ⟨g', cap', rfl⟩ := ownsRow_succ hown'; obtain ⟨hv1, hv2, hr2, hk2, hb2⟩ := b3w.appended (by decide) hroww hsw (by omega) hown' hgrow; have hc1 := hv1.cell; have hf1 := hv1.frozen)
      refine ⟨(keeps_below _ hb).trans (hk2.from _), (hb.mono hs).trans hb2, ⟨⟨⟨((b1w.alloc _).kept hgrow (b1w.not_row (by decide) hroww)).other (by omega) _, ((b2w.alloc _).kept hgrow (b2w.not_row (by decide) hroww)).other (by omega) _⟩, _, hv2, ?_, _, _, _, rfl⟩, hBw.trans hb2⟩⟩
      rw [HSel.out, flat2_snoc, List.length_append]
      exact hr2
    | false =>
      rw [hf] at hC
      have hsel := selL_miss f pre (x := x) (by rw [hxa, hxb]; exact hf)
      gi_wp2_with (refine ⟨trivial, ?_⟩; gi_at_call 138; refine (CallsIn.inRound l (callsIn_wide.2 hC.out)).mono ?_; rintro e w' ⟨rfl, hb⟩)
      refine ⟨keeps_below _ hb, hb.mono hs, ⟨⟨⟨Boxed.below' b1 hb, Boxed.below' b2 hb⟩, _, Boxed.below' b3 hb, ?_, _, _, _, rfl⟩, hB.trans (hb.mono hs)⟩⟩
      rw [hsel]
      exact own_below HRow.out hb
  case done =>
    rintro D ys W hD rfl ⟨⟨⟨b1, b2⟩, v, b3, hrow, ao, m, cap, rfl⟩, hB⟩ hK
    have hc := b3.cell
    have hc2 := b2.cell
    have hf2 := b2.frozen
    gi_wp2
    have hK' : (W.setCell ⟨w.heap.size + 1, 0, none⟩ (.slice ao m cap)).heap[D]? = some (.deferred (some [])) := (KeepsOthers.setCell W ⟨w.heap.size + 1, 0, none⟩ (.slice ao m cap)).same D _ hK rfl
    have hR : Boxed ((W.setCell ⟨w.heap.size + 1, 0, none⟩ (.slice ao m cap)).putObj D (.deferred none)) (w.heap.size + 1) 46 (.slice ao m cap) := (b2.set _).kept (grownBy_putObj' _ D _) (by intro e; have := Option.some.inj e; omega)
    refine ⟨by simp, .inl ⟨_, _, rfl, run_takeDeferred hK', ?_⟩⟩
    refine ⟨_, results_cell1 (p := 2) (ty := 46) Tryd.results137 _ _ (w.heap.size + 1) 46 #[.slice ao m cap] (0, 0) _ rfl hR Tryd.underlying46 rfl infoEl, ao, m, cap, rfl, ?_, ?_⟩
    · exact ownsRow_putObj (hrow.kept (grownBy_setCell' W (w.heap.size + 1) _) (.inr (b2.not_row (by decide) hrow).symm)) _ hK' rfl
    · exact (hB.setCell (p := ⟨w.heap.size + 1, 0, none⟩) (by simp) _).trans (belowK_b (w := w) (Nat.le_refl _) _ D _ _ (by omega) hK' rfl rfl)
  case stop =>
    rintro D c pre W _ _ h _
    exact h.elim
end Go.Proofs.YtabkkpifkkgpeaaDoor

/- Contracts of single functions, and plain lemmas, on which the exact laws of this seat rest; each holds under the conditions that it states. -/
namespace Go.Proofs.YtabkkpifkkgpeaaDoor
set_option linter.unusedVariables false
set_option linter.unusedSimpArgs false
open Go.RowKit

theorem opposite_any (x y : Int) (w : World) (hx : -100 ≤ x ∧ x ≤ 100) (hy : -100 ≤ y ∧ y ≤ 100) :
    Calls Tryd.prog 140 #[.agg #[.int .i64 x, .int .i64 y]] w fun e w' => e = .returned (.agg #[.int .i64 (-x), .int .i64 (-y)]) ∧ Below w.heap.size w w' := by
  have e1 : IntKind.i64.wrap (-x) = -x := IntWalk.i64_in _ (by omega)
  have e2 : IntKind.i64.wrap (-y) = -y := IntWalk.i64_in _ (by omega)
  go_enter Tryd.func140, Tryd.ntmps140
  go_wp2
  exact bodyPost_ret (v := .agg #[.int .i64 (-x), .int .i64 (-y)]) (by simp [results, Tryd.results140, go_sem]) rfl ⟨rfl, Joins.below_alloc2 w _ _⟩

/-- the rule of a mirrored element -/
def miF (xs : List (Int × Int)) (x y : Int) : Bool := memB xs (-x) (-y)

set_option maxHeartbeats 2000000 in
set_option maxRecDepth 100000 in
theorem mir1_any (q b m N : Nat) (xs : List (Int × Int)) (x y : Int) (w : World) (hx : -4 ≤ x ∧ x ≤ 4) (hy : -4 ≤ y ∧ y ≤ 4) (hq : w.cell? ⟨q, 0, none⟩ = some (.map (some b))) (hs : SetS w b m N xs) :
    Calls Tryd.prog 138 #[.agg #[.int .i64 x, .int .i64 y], .pointer (some ⟨q, 0, none⟩)] w (SaysB (miF xs x y) w) := by
  have hb0 := Joins.below_alloc1 w (.cells #[.int .i64 x, .int .i64 y] 29)
  have ha := heap_alloc_last w (.cells #[.int .i64 x, .int .i64 y] 29)
  have HB0 := Lib.hid hb0
  have HX : Hid (∀ W, Below (w.alloc (.cells #[.int .i64 x, .int .i64 y] 29)).heap.size (w.alloc (.cells #[.int .i64 x, .int .i64 y] 29)) W → W.cell? ⟨q, 0, none⟩ = some (.map (some b)) ∧ W.cell? ⟨w.heap.size, 0, none⟩ = some (.int .i64 x) ∧ W.cell? ⟨w.heap.size, 1, none⟩ = some (.int .i64 y)) := fun W hb => ⟨cell_kept hb (cell_kept hb0 hq), cell_kept hb (by rw [Joins.cell_of_block ha 0]; rfl), cell_kept hb (by rw [Joins.cell_of_block ha 1]; rfl)⟩
  have CO := Lib.hid (fun W => opposite_any x y W (by omega) (by omega))
  have CH : Hid (∀ W, Below (w.alloc (.cells #[.int .i64 x, .int .i64 y] 29)).heap.size (w.alloc (.cells #[.int .i64 x, .int .i64 y] 29)) W → Calls Tryd.prog 139 #[.map (some b), .agg #[.int .i64 (-x), .int .i64 (-y)]] W (SaysB (miF xs x y) W)) := fun W hb => hasS_any b m N xs (-x) (-y) W ((hs.below hb0).below hb) (wfE (by omega) (by omega)) (wfE (by omega) (by omega))
  obtain ⟨r, hr⟩ : ∃ r, miF xs x y = r := ⟨_, rfl⟩
  rw [hr] at CH ⊢
  clear hb0 ha hs hr hq
  go_enter Tryd.func138, Tryd.ntmps138
  go_wp2_with fail
  go_region_held3 (fun w' => w'.cell? ⟨q, 0, none⟩ = some (.map (some b)) ∧ w'.cell? ⟨w.heap.size, 0, none⟩ = some (.int .i64 x) ∧ w'.cell? ⟨w.heap.size, 1, none⟩ = some (.int .i64 y))
    (first | exact HX.out _ (Below.refl _ _) | exact HX.out _ (Below.refl _ _).drew | exact HX.out _ ((Below.refl _ _).drew.trans hb7) | exact HX.out _ (((Below.refl _ _).drew.trans hb7).trans (hb8.mono hb7.size)))
    (first | (go_at_call 140; refine (CO.out _).mono ?_; rintro e w7 ⟨rfl, hb7⟩) | (go_at_call 139; refine (CH.out _ ((Below.refl _ _).drew.trans hb7)).mono ?_; rintro e w8 ⟨rfl, hb8⟩))
  have B8 : Hid (Below w.heap.size w w8) := HB0.out.trans ((((Below.refl _ _).drew.trans hb7).trans (hb8.mono hb7.size)).mono (by simp))
  clear hb7 hb8
  go_wp2
  go_ret
  exact ⟨rfl, B8.out⟩

set_option maxHeartbeats 2000000 in
set_option maxRecDepth 100000 in
theorem mirrored_any (v : Value) (xs : List (Int × Int)) (w : World) (hN : xs.length ≤ 1048576) (hwf : ∀ p ∈ xs, (Lit.int .i64 p.1).wf = true ∧ (Lit.int .i64 p.2).wf = true) (hv : SlS w v xs) :
    Calls Tryd.prog 83 #[.agg #[v]] w (SaysEl (elL (miF xs)) w) := by
  have HB0 := Lib.hid (Joins.below_alloc2 w (.cells #[v] 46) (.cells #[.slice none 0 0] 46))
  have hs0 : ((w.alloc (.cells #[v] 46)).alloc (.cells #[.slice none 0 0] 46)).heap.size = w.heap.size + 1 + 1 := by simp
  have hR0 := heap_alloc_last (w.alloc (.cells #[v] 46)) (.cells #[.slice none 0 0] 46)
  rw [World.size_alloc] at hR0
  have HR0 := Lib.hid hR0
  have CO := Lib.hid (offsetsOf_any v xs ((w.alloc (.cells #[v] 46)).alloc (.cells #[.slice none 0 0] 46)) hN hwf (hv.below HB0.out))
  clear hR0 hv hwf
  go_enter Tryd.func83, Tryd.ntmps83
  go_wp2_with fail
  refine CO.out.mono ?_
  rintro e w2 ⟨b, rfl, hset, hb2⟩
  have R2 := Lib.hid ((hb2.block (w.heap.size + 1) (by rw [hs0]; omega)).trans HR0.out)
  have B2 := Lib.hid (HB0.out.trans (hb2.mono (by rw [hs0]; omega)))
  have hs2 := B2.out.size
  have lR := (Array.getElem?_eq_some_iff.1 R2.out).1
  have hb3 := Joins.below_alloc1 w2 (.cells #[.map (some b)] 123)
  have hq : (w2.alloc (.cells #[.map (some b)] 123)).cell? ⟨w2.heap.size, 0, none⟩ = some (.map (some b)) := cell_of_one (heap_alloc_last w2 _)
  have C := Lib.hid (elementOf_Mir w2.heap.size (miF xs) (w2.alloc (.cells #[.map (some b)] 123)) (fun x W hb => mir1_any w2.heap.size b _ _ xs _ _ W x.2.1 x.2.2 (cell_kept hb hq) ((hset.below hb3).below hb)))
  have R3 : Hid ((w2.alloc (.cells #[.map (some b)] 123)).heap[w.heap.size + 1]? = some (.cells #[.slice none 0 0] 46 (0, 0))) := by
    show _ = _
    rw [Below.heap_alloc _ _ _ lR]; exact R2.out
  have B3 := Lib.hid (B2.out.alloc hs2 (.cells #[.map (some b)] 123))
  have hs3 : (w2.alloc (.cells #[.map (some b)] 123)).heap.size = w2.heap.size + 1 := by simp
  obtain ⟨E, hE⟩ : ∃ E, elL (miF xs) = E := ⟨_, rfl⟩
  have HE := Lib.hid hE
  rw [hE] at C
  clear hset hb2 hb3 hq hE
  go_wp2_with fail
  refine C.out.mono ?_
  rintro e w4 ⟨ao, n, cap, rfl, hown, hb4⟩
  have hp4 := (hb4.block (w.heap.size + 1) (by rw [hs3]; omega)).trans R3.out
  have hfr : w4.frozen? ⟨w.heap.size + 1, 0, none⟩ = false := free_of_one hp4
  have hc4 : w4.cell? ⟨w.heap.size + 1, 0, none⟩ = some (.slice none 0 0) := cell_of_one hp4
  have O4 := Lib.hid (own_set (u := .slice ao n cap) hown hp4 (by decide))
  have P4 := Lib.hid (one_setCell (u := .slice ao n cap) hp4)
  have B4 := Lib.hid ((B3.out.trans (hb4.mono (by rw [hs3]; omega))).setCell (p := ⟨w.heap.size + 1, 0, none⟩) (by simp) (.slice ao n cap))
  clear hown hp4 hb4
  go_wp2_with fail
  refine bodyPost_ret (results_cell1 (p := 2) (ty := 46) Tryd.results83 _ _ (w.heap.size + 1) 46 #[.slice ao n cap] (0, 0) _ rfl P4.out Tryd.underlying46 rfl infoEl) rfl ⟨ao, n, cap, rfl, ?_, B4.out⟩
  first | exact Joins.ownsRow_le O4.out (by rw [hs3]; omega) | (rw [HE.out]; exact Joins.ownsRow_le O4.out (by rw [hs3]; omega))
end Go.Proofs.YtabkkpifkkgpeaaDoor
