/- Contracts of single functions, and plain lemmas, on which the exact laws of this seat rest; each holds under the conditions that it states. -/
import Derived.Test.YtenbhnfajjknkaaDoorW2
import Derived.Test.YtenbhnfajjknkaaDoorL7
import Derived.Test.YtenbhnfajjknkaaDoorAb
import Derived.Test.YtenbhnfajjknkaaDoorAs
import Derived.Deep.QuietTactic
import Derived.BigQuiet
import Derived.Deep.RegionHeld3
namespace Go.Proofs.YtenbhnfajjknkaaDoor
set_option linter.unusedVariables false
set_option linter.unusedSimpArgs false
open Go.RowKit

/-! ### the plane that spreads -/
/-- the rule of the neighbours -/
def nbF (e8 : Bool) (x y : Int) : Bool := decide (max (absI x) (absI y) ≤ 1) && (e8 || decide (absI x + absI y ≤ 1))
def nbL (e8 : Bool) : List (Int × Int) := elL (nbF e8)
theorem nbL_sub (e8 : Bool) : ∀ o ∈ nbL e8, o = (0, 0) ∨ o ∈ stepL e8 := by cases e8 <;> exact of_decide_eq_true (by kernel_rfl)
theorem nbL_sup (e8 : Bool) : ∀ o ∈ (0, 0) :: stepL e8, o ∈ nbL e8 := by cases e8 <;> exact of_decide_eq_true (by kernel_rfl)
theorem nbL_pos (e8 : Bool) : 0 < (nbL e8).length ∧ (nbL e8).length ≤ 81 := by cases e8 <;> exact of_decide_eq_true (by kernel_rfl)
theorem nbL_rng (e8 : Bool) : Rng (nbL e8) := fun o ho => by
  rcases nbL_sub e8 o ho with rfl | h
  · exact ⟨⟨by decide, by decide⟩, ⟨by decide, by decide⟩⟩
  · have := stepL_rng e8 o h
    omega
def nxG (g m : Nat → Nat) (e8 : Bool) : Nat → Nat := mgG 0 (mvA 1 g (nbL e8)) m 24
theorem inPl_nat {X Y : Int} (h : inPl X Y = true) : (Y + 4).toNat < 24 ∧ (X + 4).toNat < 24 ∧ (((Y + 4).toNat : Nat) : Int) = Y + 4 ∧ (((X + 4).toNat : Nat) : Int) = X + 4 := by
  unfold inPl at h
  have := of_decide_eq_true h
  omega
theorem plF_mg0 (g h : Nat → Nat) (hh : PlW h) (X Y : Int) : plF (mgG 0 g h 24) X Y = (plF g X Y && plF h X Y) := by
  unfold plF
  cases hi : inPl X Y with
  | false => rfl
  | true =>
    have hn := inPl_nat hi
    simp only [mgG, if_pos hn.1, Bool.true_and]
    rw [jn_bit 0 _ _ _ (Nat.lt_trans (hh _) (by decide)) (by omega)]
    simp [jnF, jF0]
theorem nx_plw (g m : Nat → Nat) (e8 : Bool) (hm : PlW m) : PlW (nxG g m e8) := mgG_plw 0 _ _ 24 (mvA_plw _ _ _) hm
theorem plF_in {g : Nat → Nat} {X Y : Int} (h : plF g X Y = true) : inPl X Y = true := by unfold plF at h; exact (Bool.and_eq_true_iff.1 h).1
theorem nx_pix (g m : Nat → Nat) (e8 : Bool) (hg : PlW g) (hm : PlW m) (X Y : Int) : plF (nxG g m e8) X Y = true ↔ (∃ o ∈ nbL e8, plF g (X - o.1) (Y - o.2) = true) ∧ plF m X Y = true := by
  unfold nxG
  rw [plF_mg0 _ _ hm, Bool.and_eq_true]
  constructor
  · rintro ⟨h1, h2⟩
    rw [mvA_any g hg _ (nbL_rng e8) X Y (plF_in h2), List.any_eq_true] at h1
    exact ⟨h1, h2⟩
  · rintro ⟨h1, h2⟩
    refine ⟨?_, h2⟩
    rw [mvA_any g hg _ (nbL_rng e8) X Y (plF_in h2), List.any_eq_true]
    exact h1
/-- where the spreading stands -/
structure SpI (m : Nat → Nat) (e8 : Bool) (xs : List (Int × Int)) (r : Nat → Nat) : Prop where
  plw : PlW r
  sound : ∀ X Y, plF r X Y = true → Reach (plF m) (stepL e8) xs (X, Y)
  seeds : ∀ q ∈ xs, plF m q.1 q.2 = true → plF r q.1 q.2 = true
theorem SpI.start {s m : Nat → Nat} (e8 : Bool) {xs : List (Int × Int)} (hs : PlW s) (hm : PlW m) (hx : ∀ q : Int × Int, plF m q.1 q.2 = true → (q ∈ xs ↔ plF s q.1 q.2 = true)) : SpI m e8 xs (mgG 0 s m 24) := by
  refine ⟨mgG_plw 0 _ _ 24 hs hm, fun X Y h => ?_, fun q hq h => ?_⟩
  · rw [plF_mg0 _ _ hm, Bool.and_eq_true] at h
    exact Reach.seed ((hx (X, Y) h.2).2 h.1) h.2
  · rw [plF_mg0 _ _ hm, Bool.and_eq_true]
    exact ⟨(hx q h).1 hq, h⟩
theorem SpI.sub {m r : Nat → Nat} {e8 : Bool} {xs : List (Int × Int)} (h : SpI m e8 xs r) (hm : PlW m) (X Y : Int) (hr : plF r X Y = true) : plF (nxG r m e8) X Y = true := by
  rw [nx_pix r m e8 h.plw hm]
  refine ⟨⟨(0, 0), nbL_sup e8 _ (by simp), ?_⟩, (h.sound X Y hr).black⟩
  show plF r (X - 0) (Y - 0) = true
  rw [Int.sub_zero, Int.sub_zero]
  exact hr
theorem SpI.next {m r : Nat → Nat} {e8 : Bool} {xs : List (Int × Int)} (h : SpI m e8 xs r) (hm : PlW m) : SpI m e8 xs (nxG r m e8) := by
  refine ⟨nx_plw _ _ _ hm, fun X Y hx => ?_, fun q hq hqm => h.sub hm _ _ (h.seeds q hq hqm)⟩
  obtain ⟨⟨o, ho, hr⟩, hmm⟩ := (nx_pix r m e8 h.plw hm X Y).1 hx
  rcases nbL_sub e8 o ho with rfl | hs
  · have : plF r (X - 0) (Y - 0) = true := hr
    rw [Int.sub_zero, Int.sub_zero] at this
    exact h.sound X Y this
  · have e : addS (X - o.1, Y - o.2) o = (X, Y) := by
      unfold addS
      simp
    have := Reach.step (p := plF m) (d := o) (h.sound _ _ hr) hs (by rw [e]; exact hmm)
    rwa [e] at this
theorem SpI.done {m r : Nat → Nat} {e8 : Bool} {xs : List (Int × Int)} (h : SpI m e8 xs r) (hm : PlW m) (hd : ∀ X Y, plF (nxG r m e8) X Y = true → plF r X Y = true) (X Y : Int) : plF r X Y = true ↔ Reach (plF m) (stepL e8) xs (X, Y) := by
  refine ⟨h.sound X Y, ?_⟩
  have : ∀ q : Int × Int, Reach (plF m) (stepL e8) xs q → plF r q.1 q.2 = true := by
    intro q hq
    induction hq with
    | seed h1 h2 => exact h.seeds _ h1 h2
    | @step q d h1 h2 h3 ih =>
      refine hd _ _ ((nx_pix r m e8 h.plw hm _ _).2 ⟨⟨d, nbL_sup e8 _ (by simp [h2]), ?_⟩, h3⟩)
      have e1 : (addS q d).1 - d.1 = q.1 := by unfold addS; simp
      have e2 : (addS q d).2 - d.2 = q.2 := by unfold addS; simp
      rw [e1, e2]
      exact ih
  exact this (X, Y)
/-! how many pixels are black -/
def bitG (r : Nat → Nat) (i : Nat) : Bool := (r (i / 24)).testBit (i % 24)
def cntG (r : Nat → Nat) : Nat := (List.range 576).countP (bitG r)
theorem cntG_le (r : Nat → Nat) : cntG r ≤ 576 := by
  have := List.countP_le_length (p := bitG r) (l := List.range 576)
  rw [List.length_range] at this
  exact this
theorem countP_lt2 {p q : Nat → Bool} : ∀ {l : List Nat}, (∀ i ∈ l, p i = true → q i = true) → (∃ i ∈ l, p i = false ∧ q i = true) → l.countP p < l.countP q
  | [], _, h => by obtain ⟨i, hi, _⟩ := h; simp at hi
  | a :: l, hs, h => by
    rw [List.countP_cons, List.countP_cons]
    have hle : l.countP p ≤ l.countP q := List.countP_mono_left (fun i hi hp => hs i (by simp [hi]) hp)
    obtain ⟨i, hi, h1, h2⟩ := h
    rcases List.mem_cons.1 hi with rfl | hi
    · rw [h1, h2]
      simp
      omega
    · have := countP_lt2 (fun i hi hp => hs i (by simp [hi]) hp) ⟨i, hi, h1, h2⟩
      by_cases hpa : p a = true
      · rw [if_pos hpa, if_pos (hs a (by simp) hpa)]
        omega
      · rw [if_neg hpa]
        split <;> omega
theorem bitG_plF (r : Nat → Nat) (i : Nat) (hi : i < 576) : bitG r i = plF r (((i % 24 : Nat) : Int) - 4) (((i / 24 : Nat) : Int) - 4) := by
  have h1 : i % 24 < 24 := Nat.mod_lt _ (by decide)
  have h2 : i / 24 < 24 := by omega
  have h3 : inPl (((i % 24 : Nat) : Int) - 4) (((i / 24 : Nat) : Int) - 4) = true := by
    unfold inPl
    exact decide_eq_true (by omega)
  unfold bitG plF
  rw [h3, Bool.true_and, show (((i / 24 : Nat) : Int) - 4 + 4).toNat = i / 24 from by omega, show (((i % 24 : Nat) : Int) - 4 + 4).toNat = i % 24 from by omega]
theorem same_rows {r s : Nat → Nat} (hr : PlW r) (hs : PlW s) (h : ∀ i, i < 576 → bitG r i = bitG s i) : ∀ j, j < 24 → r j = s j := fun j hj => by
  refine Nat.eq_of_testBit_eq fun x => ?_
  by_cases hx : x < 24
  · have := h (j * 24 + x) (by omega)
    unfold bitG at this
    rwa [show (j * 24 + x) / 24 = j from by omega, show (j * 24 + x) % 24 = x from by omega] at this
  · have e : ∀ n : Nat, n < 16777216 → n.testBit x = false := fun n hn => Nat.testBit_lt_two_pow (Nat.lt_of_lt_of_le hn (show 2 ^ 24 ≤ 2 ^ x from Nat.pow_le_pow_right (by decide) (by omega)))
    rw [e _ (hr j), e _ (hs j)]
theorem SpI.more {m r : Nat → Nat} {e8 : Bool} {xs : List (Int × Int)} (h : SpI m e8 xs r) (hm : PlW m) (hne : ¬ ∀ j, j < 24 → nxG r m e8 j = r j) : cntG r < cntG (nxG r m e8) := by
  have hsub : ∀ i, i < 576 → bitG r i = true → bitG (nxG r m e8) i = true := fun i hi hb => by
    rw [bitG_plF _ i hi] at hb ⊢
    exact h.sub hm _ _ hb
  refine countP_lt2 (fun i hi => hsub i (List.mem_range.1 hi)) ?_
  refine Classical.byContradiction fun hx => hne (same_rows (nx_plw _ _ _ hm) h.plw fun i hi => ?_)
  cases hb : bitG r i with
  | true => exact hsub i hi hb
  | false =>
    cases hc : bitG (nxG r m e8) i with
    | false => rfl
    | true => exact absurd ⟨i, List.mem_range.2 hi, hb, hc⟩ hx
theorem plF_congr {r s : Nat → Nat} (h : ∀ j, j < 24 → r j = s j) (X Y : Int) : plF r X Y = plF s X Y := by
  unfold plF
  cases hi : inPl X Y with
  | false => rfl
  | true => rw [h _ (inPl_nat hi).1]
theorem pl_inj {a b : Nat} {r s : Nat → Nat} (h : pl a b r = pl a b s) : ∀ j, j < 24 → r j = s j := fun j hj => by
  have h1 := pl_word a b r j hj
  rw [h, pl_word a b s j hj] at h1
  injection h1 with h1
  injection h1 with _ h1
  omega
/-- the count, of the cells -/
def bitC (cs : Array Value) (i : Nat) : Bool := match cs[2 + i / 24]? with
  | some (.int _ n) => n.toNat.testBit (i % 24)
  | _ => false
def cntC (cs : Array Value) : Nat := (List.range 576).countP (bitC cs)
theorem cntC_pl (a b : Nat) (r : Nat → Nat) : cntC (pl a b r) = cntG r := by
  refine List.countP_congr fun i hi => ?_
  have hi2 := List.mem_range.1 hi
  unfold bitC bitG
  rw [pl_word a b r (i / 24) (by omega)]
  simp
def cellsOfBlk (W : World) (b : Nat) : Array Value := match W.heap[b]? with
  | some (.cells cs _ _) => cs
  | _ => #[]
theorem cellsOfBlk_of {W : World} {b : Nat} {cs : Array Value} {t : TypeId} {o : Nat × Nat} (h : W.heap[b]? = some (.cells cs t o)) : cellsOfBlk W b = cs := by unfold cellsOfBlk; rw [h]
end Go.Proofs.YtenbhnfajjknkaaDoor

/- Contracts of single functions, and plain lemmas, on which the exact laws of this seat rest; each holds under the conditions that it states. -/
namespace Go.Proofs.YtenbhnfajjknkaaDoor
set_option linter.unusedVariables false
set_option linter.unusedSimpArgs false
open Go.RowKit Go.Shelf
attribute [local go_sem] Oper.semAt_some

set_option maxRecDepth 100000 in
set_option maxHeartbeats 4000000 in
theorem elementOf_Near (q : Nat) (f : Int → Int → Bool) (w : World)
    (hhas : ∀ (x : Off) (W : World), Below w.heap.size w W → Calls Tryd.prog 111 #[.agg #[.int .i64 x.1.1, .int .i64 x.1.2], .pointer (some ⟨q, 0, none⟩)] W (SaysB (f x.1.1 x.1.2) W)) :
    Calls Tryd.prog 91 #[.func (.func 111) #[] #[.pointer (some ⟨q, 0, none⟩)]] w (SaysEl (elL f) w) := by
  refine (callsIn_wide (n := 6)).1 ?_
  have HH := Lib.hid hhas
  clear hhas
  obtain ⟨i0, hi, hz0, hz1, hz2⟩ := info_parts infoSp
  refine callsIn_of_wp_marks Tryd.func91 rfl trivial ?_ rfl
  simp only [Tryd.ntmps91, List.size_toArray, List.length_cons, List.length_nil, Nat.reduceAdd, Nat.reduceSub, Array.replicate_succ, Array.replicate_zero, List.push_toArray, List.append_toArray, List.nil_append, List.cons_append]
  gi_wp2
  have bH := Boxed.new w 122 (.func (.func 111) #[] #[.pointer (some ⟨q, 0, none⟩)])
  have bR := Boxed.new (w.alloc (.cells #[.func (.func 111) #[] #[.pointer (some ⟨q, 0, none⟩)]] 122)) 36 (.slice none 0 0)
  have bE := Boxed.new ((w.alloc (.cells #[.func (.func 111) #[] #[.pointer (some ⟨q, 0, none⟩)]] 122)).alloc (.cells #[.slice none 0 0] 36)) 36 (.slice none 0 0)
  rw [World.size_alloc] at bR bE
  rw [World.size_alloc] at bE
  have hB0 : Below w.heap.size w (((w.alloc (.cells #[.func (.func 111) #[] #[.pointer (some ⟨q, 0, none⟩)]] 122)).alloc (.cells #[.slice none 0 0] 36)).alloc (.cells #[.slice none 0 0] 36)) := Joins.below_alloc3 _ _ _ _
  obtain ⟨W0, hW0⟩ : ∃ W0, (((w.alloc (.cells #[.func (.func 111) #[] #[.pointer (some ⟨q, 0, none⟩)]] 122)).alloc (.cells #[.slice none 0 0] 36)).alloc (.cells #[.slice none 0 0] 36)) = W0 := ⟨_, rfl⟩
  have hsz : W0.heap.size = w.heap.size + 3 := by rw [← hW0]; simp
  have bH0 : Boxed W0 w.heap.size 122 (.func (.func 111) #[] #[.pointer (some ⟨q, 0, none⟩)]) := by rw [← hW0]; exact (bH.alloc _).alloc _
  have bR0 : Boxed W0 (w.heap.size + 1) 36 (.slice none 0 0) := by rw [← hW0]; exact bR.alloc _
  rw [hW0] at hB0 bE ⊢
  clear bH bR hW0
  refine wpIn_rangeFunc_ownH rfl (by omega) (gf := 108) (lb := #[]) rfl trivial (enters_of Tryd.func108 (by kernel_rfl) rfl)
    (allOffsets_stops Fence.wide (6 - 1) trivial rfl (by omega) (Below w.heap.size) W0) belowK_t (belowK_b (by omega)) (Below.refl _ _) (fun _ => rfl)
    (fun pre W => ((Boxed W w.heap.size 122 (.func (.func 111) #[] #[.pointer (some ⟨q, 0, none⟩)]) ∧ Boxed W (w.heap.size + 1) 36 (.slice none 0 0)) ∧ (∃ v, Boxed W (w.heap.size + 1 + 1) 36 v ∧ W.ownsRow w.heap.size 79 2 v (selL f pre).length (flat2 (selL f pre)) ∧ (∃ ao m cap, v = .slice ao m cap))) ∧ Below w.heap.size w W)
    (fun _ _ _ => False)
    (OwnFrom.and (OwnFrom.and (OwnFrom.and (Own.from (boxed_own _ _ _) _) (Own.from (boxed_own _ _ _) _)) (Own.from (holdsRow_own w.heap.size (w.heap.size + 1 + 1) 36 79 2 (fun pre => (selL f pre).length) (fun pre => flat2 (selL f pre)) (fun _ v => ∃ ao m cap, v = .slice ao m cap)) _)) (ownFrom_below (Nat.le_refl _) (by omega)))
    (fun _ _ _ _ _ hs _ _ => hs)
    ⟨⟨⟨bH0, bR0⟩, ⟨_, bE, World.ownsRow_nil _ _ _ _, _, _, _, rfl⟩⟩, hB0⟩
    (fun x a' W => ∃ Bx, w.heap.size + 1 + 1 < Bx ∧ Two W Bx x ∧ a' = { tmps := #[.func (.func 111) #[] #[.pointer (some ⟨q, 0, none⟩)], .pointer (some ⟨w.heap.size, 0, none⟩), .pointer (some ⟨w.heap.size + 1, 0, none⟩), .pointer (some ⟨w.heap.size + 1 + 1, 0, none⟩), .pointer (some ⟨Bx, 0, none⟩), .agg #[.int .i64 x.1.1, .int .i64 x.1.2], undef, undef, undef, undef, undef, undef, undef, undef, undef, undef], defers := [] })
    (fun x a' s X Y row hs hg hrow => by
      obtain ⟨Bx, hBx, h2, he⟩ := hs
      exact ⟨Bx, hBx, Two.own Bx x () X Y row h2 hg (fun r e => (hrow r e).2), he⟩)
    ?assign ?body ?done ?stop
  case assign =>
    rintro l pre x W K ⟨⟨⟨b1, b2⟩, v, b3, hrow, hv⟩, hB⟩ hK
    have hs := hB.size
    have hlt := b3.lt
    simp only [encO]
    gi_wp2
    exact hK _ _ ((KeepsOthers.alloc _ _).from _) ((Below.refl _ W).alloc hs _) ⟨⟨⟨b1.alloc _, b2.alloc _⟩, v, b3.alloc _, hrow.alloc _, hv⟩, hB.alloc hs _⟩ ⟨W.heap.size, hlt, heap_alloc_last W _, rfl⟩
  case body =>
    rintro l pre x a' W hl _ ⟨⟨⟨b1, b2⟩, v, b3, hrow, ao, m, cap, rfl⟩, hB⟩ ⟨Bx, hBx, h2, rfl⟩ hlt
    have hs := hB.size
    have hlt3 := b3.lt
    have hltx := h2.lt
    have c1 := b1.cell
    have x0 := h2.c0
    have x1 := h2.c1
    have hC := Lib.hid (HH.out x W hB)
    have HRow := Lib.hid hrow
    have hlen := selL_len f pre
    clear hrow HH
    obtain ⟨xa, hxa⟩ : ∃ t, x.1.1 = t := ⟨_, rfl⟩
    obtain ⟨xb, hxb⟩ : ∃ t, x.1.2 = t := ⟨_, rfl⟩
    rw [hxa, hxb] at hC ⊢
    rw [hxa] at x0
    rw [hxb] at x1
    cases hf : f xa xb with
    | true =>
      rw [hf] at hC
      have hsel := selL_hit f pre (x := x) (by rw [hxa, hxb]; exact hf)
      rw [hxa, hxb] at hsel
      have HSel := Lib.hid hsel
      obtain ⟨L, hL⟩ : ∃ L, selL f pre = L := ⟨_, rfl⟩
      rw [hL] at HRow HSel hlen
      have hlen2 : L.length ≤ 81 := by omega
      clear hsel hL hlen hf
      gi_wp2_with (refine ⟨trivial, ?_⟩; gi_at_call 111; refine (CallsIn.inRound l (callsIn_wide.2 hC.out)).mono ?_; rintro e w' ⟨rfl, hb⟩; refine Hid.out ?_)
      have hs' := hb.size
      have b1w := Boxed.below' b1 hb
      have b2w := Boxed.below' b2 hb
      have b3w := Boxed.below' b3 hb
      have h2w := h2.below hb
      have hroww := own_below HRow.out hb
      have hBw := hB.trans (hb.mono hs)
      have hsw := hBw.size
      have hc := b3w.cell
      have y0 := h2w.c0
      have y1 := h2w.c1
      have hltw := h2w.lt
      have hlt3w := b3w.lt
      rw [hxa] at y0
      rw [hxb] at y1
      clear x0 x1 c1 hC
      refine Lib.hid ?_
      gi_wp2_with (gi_at_builtin; refine wpListIn_append_own _ rfl _ _ 34 rfl w.heap.size 79 i0 (.agg #[.int .i64 0, .int .i64 0]) 2 16 Tryd.underlying34 hi hz0 hz1 hz2 rfl (by decide) _ _ _ rfl (hroww.alloc _) ⟨w'.heap.size, 0, none⟩ 1 1 [.int .i64 xa, .int .i64 xb] rfl rfl (two_cells_new _ _ _ _) (by intro u hu; simp at hu; rcases hu with rfl | rfl <;> rfl) (by unfold maxLen; omega) (by omega) (by simp; omega) ?_; intro v' w1 hown' hgrow _; obtain ⟨g', cap', rfl⟩ := ownsRow_succ hown'; obtain ⟨hv1, hv2, hr2, hk2, hb2⟩ := b3w.appended (by decide) hroww hsw (by omega) hown' hgrow; have hc1 := hv1.cell; have hf1 := hv1.frozen)
      refine ⟨(keeps_below _ hb).trans (hk2.from _), (hb.mono hs).trans hb2, ⟨⟨⟨((b1w.alloc _).kept hgrow (b1w.not_row (by decide) hroww)).other (by omega) _, ((b2w.alloc _).kept hgrow (b2w.not_row (by decide) hroww)).other (by omega) _⟩, _, hv2, ?_, _, _, _, rfl⟩, hBw.trans hb2⟩⟩
      rw [HSel.out, flat2_snoc, List.length_append]
      exact hr2
    | false =>
      rw [hf] at hC
      have hsel := selL_miss f pre (x := x) (by rw [hxa, hxb]; exact hf)
      gi_wp2_with (refine ⟨trivial, ?_⟩; gi_at_call 111; refine (CallsIn.inRound l (callsIn_wide.2 hC.out)).mono ?_; rintro e w' ⟨rfl, hb⟩)
      refine ⟨keeps_below _ hb, hb.mono hs, ⟨⟨⟨Boxed.below' b1 hb, Boxed.below' b2 hb⟩, _, Boxed.below' b3 hb, ?_, _, _, _, rfl⟩, hB.trans (hb.mono hs)⟩⟩
      rw [hsel]
      exact own_below HRow.out hb
  case done =>
    rintro D ys W hD rfl ⟨⟨⟨b1, b2⟩, v, b3, hrow, ao, m, cap, rfl⟩, hB⟩ hK
    have hc := b3.cell
    have hc2 := b2.cell
    have hf2 := b2.frozen
    gi_wp2
    have hK' : (W.setCell ⟨w.heap.size + 1, 0, none⟩ (.slice ao m cap)).heap[D]? = some (.deferred (some [])) := (KeepsOthers.setCell W ⟨w.heap.size + 1, 0, none⟩ (.slice ao m cap)).same D _ hK rfl
    have hR : Boxed ((W.setCell ⟨w.heap.size + 1, 0, none⟩ (.slice ao m cap)).putObj D (.deferred none)) (w.heap.size + 1) 36 (.slice ao m cap) := (b2.set _).kept (grownBy_putObj' _ D _) (by intro e; have := Option.some.inj e; omega)
    refine ⟨by simp, .inl ⟨_, _, rfl, run_takeDeferred hK', ?_⟩⟩
    refine ⟨_, results_cell1 (p := 2) (ty := 36) Tryd.results91 _ _ (w.heap.size + 1) 36 #[.slice ao m cap] (0, 0) _ rfl hR Tryd.underlying36 rfl infoEl, ao, m, cap, rfl, ?_, ?_⟩
    · exact ownsRow_putObj (hrow.kept (grownBy_setCell' W (w.heap.size + 1) _) (.inr (b2.not_row (by decide) hrow).symm)) _ hK' rfl
    · exact (hB.setCell (p := ⟨w.heap.size + 1, 0, none⟩) (by simp) _).trans (belowK_b (w := w) (Nat.le_refl _) _ D _ _ (by omega) hK' rfl rfl)
  case stop =>
    rintro D c pre W _ _ h _
    exact h.elim
end Go.Proofs.YtenbhnfajjknkaaDoor

/- Contracts of single functions, and plain lemmas, on which the exact laws of this seat rest; each holds under the conditions that it states. -/
namespace Go.Proofs.YtenbhnfajjknkaaDoor
set_option linter.unusedVariables false
set_option linter.unusedSimpArgs false
open Go.RowKit
attribute [local go_sem] Oper.semAt_some

theorem nbF_eq (e8 : Bool) (a b c d : Int) (ha : absI c = a) (hb : absI d = b) : nbF e8 c d = (decide (max a b ≤ 1) && (e8 || decide (a + b ≤ 1))) := by unfold nbF; rw [ha, hb]
set_option maxHeartbeats 2000000 in
set_option maxRecDepth 100000 in
theorem near1_any (x y : Int) (e8 : Bool) (q : Nat) (w : World) (hx : -4 ≤ x ∧ x ≤ 4) (hy : -4 ≤ y ∧ y ≤ 4) (hq : w.cell? ⟨q, 0, none⟩ = some (.bool e8)) :
    Calls Tryd.prog 111 #[.agg #[.int .i64 x, .int .i64 y], .pointer (some ⟨q, 0, none⟩)] w (SaysB (nbF e8 x y) w) := by
  have hl := blk_lt hq
  have CA := Lib.hid (fun (z : Int) (hz : -4 ≤ z ∧ z ≤ 4) W => absolute_any z W (by omega))
  have r1 := absI_range x (by omega)
  have r2 := absI_range y (by omega)
  obtain ⟨a, ha⟩ : ∃ a, absI x = a := ⟨_, rfl⟩
  obtain ⟨b, hb⟩ : ∃ b, absI y = b := ⟨_, rfl⟩
  have HV : Hid (nbF e8 x y = (decide (max a b ≤ 1) && (e8 || decide (a + b ≤ 1)))) := nbF_eq e8 a b x y ha hb
  have C1 := Lib.hid (fun W => CA.out x hx W)
  have C2 := Lib.hid (fun W => CA.out y hy W)
  rw [ha] at C1 r1
  rw [hb] at C2 r2
  clear ha hb CA
  have HE : Hid (∀ r : Bool, nbF e8 x y = r → ∀ w', Below w.heap.size w w' → SaysB (nbF e8 x y) w (.returned (.bool r)) w') := fun r h w' hb => ⟨by rw [h], hb⟩
  by_cases h1 : max a b ≤ 1
  · cases e8 with
    | true =>
      have hv := HV.out
      rw [decide_eq_true h1] at hv
      have HR := Lib.hid (HE.out true hv)
      clear HE HV hv
      go_enter Tryd.func111, Tryd.ntmps111
      go_wp2_with fail
      go_quiet ((go_at_call 112; first | exact Calls.quiet_of_same ((C1.out _).mono fun e w' ⟨he, hw⟩ => ⟨he, hw.symm⟩) | exact Calls.quiet_of_same ((C2.out _).mono fun e w' ⟨he, hw⟩ => ⟨he, hw.symm⟩)))
      go_wp2
      go_ret
      exact HR.out _ ((Joins.below_alloc1 w _).trans (Joins.below_draws w.heap.size _ _))
    | false =>
      have hv : nbF false x y = decide (a + b ≤ 1) := by
        have := HV.out
        rw [decide_eq_true h1] at this
        exact this
      have HR := Lib.hid (HE.out _ hv)
      clear HE HV hv
      go_enter Tryd.func111, Tryd.ntmps111
      go_wp2_with fail
      go_quiet ((go_at_call 112; first | exact Calls.quiet_of_same ((C1.out _).mono fun e w' ⟨he, hw⟩ => ⟨he, hw.symm⟩) | exact Calls.quiet_of_same ((C2.out _).mono fun e w' ⟨he, hw⟩ => ⟨he, hw.symm⟩)))
      go_wp2
      go_ret
      exact HR.out _ ((Joins.below_alloc1 w _).trans (Joins.below_draws w.heap.size _ _))
  · have hv := HV.out
    rw [decide_eq_false h1] at hv
    have HR := Lib.hid (HE.out false hv)
    clear HE HV hv
    go_enter Tryd.func111, Tryd.ntmps111
    go_wp2_with fail
    go_quiet ((go_at_call 112; first | exact Calls.quiet_of_same ((C1.out _).mono fun e w' ⟨he, hw⟩ => ⟨he, hw.symm⟩) | exact Calls.quiet_of_same ((C2.out _).mono fun e w' ⟨he, hw⟩ => ⟨he, hw.symm⟩)))
    go_wp2
    go_ret
    exact HR.out _ ((Joins.below_alloc1 w _).trans (Joins.below_draws w.heap.size _ _))

set_option maxHeartbeats 2000000 in
set_option maxRecDepth 100000 in
theorem neighbourhood_any (e8 : Bool) (w : World) : Calls Tryd.prog 101 #[.bool e8] w (SaysEl (nbL e8) w) := by
  have hR0 := heap_alloc2_new w (.cells #[.bool e8] 4) (.cells #[.slice none 0 0] 36)
  have hE0 : ((w.alloc (.cells #[.bool e8] 4)).alloc (.cells #[.slice none 0 0] 36)).heap[w.heap.size]? = some (.cells #[.bool e8] 4 (0, 0)) := by
    rw [Below.heap_alloc _ _ _ (by simp)]; exact heap_alloc_last w _
  have HB0 := Lib.hid (Joins.below_alloc2 w (.cells #[.bool e8] 4) (.cells #[.slice none 0 0] 36))
  have hs0 : ((w.alloc (.cells #[.bool e8] 4)).alloc (.cells #[.slice none 0 0] 36)).heap.size = w.heap.size + 2 := by simp
  have C := Lib.hid (elementOf_Near w.heap.size (nbF e8) ((w.alloc (.cells #[.bool e8] 4)).alloc (.cells #[.slice none 0 0] 36)) (fun x W hb => near1_any _ _ e8 w.heap.size W x.2.1 x.2.2 (cell_kept hb (cell_of_one hE0))))
  have HR0 := Lib.hid hR0
  clear hR0 hE0
  go_enter Tryd.func101, Tryd.ntmps101
  go_wp2_with fail
  refine C.out.mono ?_
  rintro e w4 ⟨ao, n, cap, rfl, hown, hb4⟩
  have hp4 := (hb4.block (w.heap.size + 1) (by rw [hs0]; omega)).trans HR0.out
  have hfr : w4.frozen? ⟨w.heap.size + 1, 0, none⟩ = false := free_of_one hp4
  have hc4 : w4.cell? ⟨w.heap.size + 1, 0, none⟩ = some (.slice none 0 0) := cell_of_one hp4
  have O4 := Lib.hid (own_set (u := .slice ao n cap) hown hp4 (by decide))
  have P4 := Lib.hid (one_setCell (u := .slice ao n cap) hp4)
  have B4 := Lib.hid ((HB0.out.trans (hb4.mono (by rw [hs0]; omega))).setCell (p := ⟨w.heap.size + 1, 0, none⟩) (by simp) (.slice ao n cap))
  clear hown hp4 hb4
  go_wp2_with fail
  refine bodyPost_ret (results_cell1 (p := 2) (ty := 36) Tryd.results101 _ _ (w.heap.size + 1) 36 #[.slice ao n cap] (0, 0) _ rfl P4.out Tryd.underlying36 rfl infoEl) rfl ⟨ao, n, cap, rfl, ?_, B4.out⟩
  exact Joins.ownsRow_le O4.out (by rw [hs0]; omega)
end Go.Proofs.YtenbhnfajjknkaaDoor
