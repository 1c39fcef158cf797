/- Contracts of single functions, and plain lemmas, on which the exact laws of this seat rest; each holds under the conditions that it states. -/
import Derived.Test.YtaopdhncapoefaaDoorS0
import Derived.Test.YtaopdhncapoefaaDoorS2
import Derived.Test.YtaopdhncapoefaaDoorS4
import Derived.Test.YtaopdhncapoefaaDoorR5
namespace Go.Proofs.YtaopdhncapoefaaDoor
set_option linter.unusedVariables false
set_option linter.unusedSimpArgs false
open Go.RowKit Go.Shelf
attribute [local go_sem] Oper.semAt_some

/-- a block of cells that stays -/
def Blk (W : World) (g : Nat) (C : Array Value) (t : TypeId) : Prop := W.heap[g]? = some (.cells C t (0, 0))
theorem Blk.lt {W : World} {g : Nat} {C : Array Value} {t : TypeId} (h : Blk W g C t) : g < W.heap.size := (Array.getElem?_eq_some_iff.1 h).1
theorem Blk.below {W W' : World} {g : Nat} {C : Array Value} {t : TypeId} (h : Blk W g C t) (hb : Below W.heap.size W W') : Blk W' g C t := (hb.block g h.lt).trans h
theorem Blk.own {β : Type} (g : Nat) (C : Array Value) (t : TypeId) : Own (fun (_ : β) W => Blk W g C t) := fun s X Y row hs hg hrow =>
  (hg.block g hs.lt (fun e' => by obtain ⟨o, ho, hc⟩ := hrow g e'.symm; rw [show X.heap[g]? = _ from hs] at ho; cases ho; cases hc)).trans hs
theorem Blk.grown {W W' : World} {g base n s : Nat} {C : Array Value} {t e : TypeId} {v : Value} {xs : List Value} (h : Blk W g C t) (ho : W.ownsRow base e s v n xs) (he : t ≠ e) (hg : W.grownBy W' v.ownBlock) : Blk W' g C t :=
  var_far h ho he hg
theorem Blk.set {W : World} {g : Nat} {C : Array Value} {t : TypeId} (h : Blk W g C t) {B : Nat} (hne : g ≠ B) (u : Value) : Blk (W.setCell ⟨B, 0, none⟩ u) g C t := (Below.heap_setCell _ _ _ _ hne).trans h
theorem Blk.alloc {W : World} {g : Nat} {C : Array Value} {t : TypeId} (h : Blk W g C t) (o : Obj) : Blk (W.alloc o) g C t := (Below.heap_alloc _ _ _ h.lt).trans h

abbrev InPic (q : Int × Int) : Prop := (0 ≤ q.1 ∧ q.1 ≤ 16) ∧ (0 ≤ q.2 ∧ q.2 ≤ 16)
def picGrid (a b : Nat) (ha : 0 < a ∧ a ≤ 16) (hb : 0 < b ∧ b ≤ 16) : Grid InPic := ⟨a, b, 0, ha.1, hb.1, fun x y hx hy => by show (0 ≤ (x : Int) - ((0 : Nat) : Int) ∧ (x : Int) - ((0 : Nat) : Int) ≤ 16) ∧ (0 ≤ (y : Int) - ((0 : Nat) : Int) ∧ (y : Int) - ((0 : Nat) : Int) ≤ 16); omega⟩
/-- the ends of lines among spots that have come -/
def selE (p : Int → Int → Bool) (pre : List { q : Int × Int // InPic q }) : List (Int × Int) := (pre.filter fun q => p q.1.1 q.1.2 && decide (cntF (rgV p q.1.1 q.1.2) 8 = 1)).map (·.1)
theorem selE_snoc (p : Int → Int → Bool) (pre : List { q : Int × Int // InPic q }) (x : { q : Int × Int // InPic q }) : selE p (pre ++ [x]) = selE p pre ++ (if (p x.1.1 x.1.2 && decide (cntF (rgV p x.1.1 x.1.2) 8 = 1)) = true then [(x.1.1, x.1.2)] else []) := by
  unfold selE
  rw [List.filter_append, List.map_append]
  congr 1
  by_cases h : (p x.1.1 x.1.2 && decide (cntF (rgV p x.1.1 x.1.2) 8 = 1)) = true
  · rw [if_pos h]; simp [List.filter, h]
  · rw [if_neg h]; simp only [Bool.not_eq_true] at h; simp [List.filter, h]
theorem selE_len (p : Int → Int → Bool) (pre : List { q : Int × Int // InPic q }) : (selE p pre).length ≤ pre.length := by
  unfold selE
  rw [List.length_map]
  exact List.length_filter_le _ _

set_option maxRecDepth 100000 in
set_option maxHeartbeats 4000000 in
theorem endsWork_mid (pb : Nat) (v : Value) (M : Array Value) (a b : Nat) (p : Int → Int → Bool) (w : World) (ha : 0 < a ∧ a ≤ 16) (hb : 0 < b ∧ b ≤ 16) (hc : w.cell? ⟨pb, 0, none⟩ = some v) (hsz : M.size = 18) (hone : M.all (·.oneCell') = true)
    (hM : ∀ (W : World) (g : Nat), W.heap[g]? = some (.cells M 58 (0, 0)) → W.cell? ⟨g, 0, none⟩ = some (.int .i64 a) ∧ W.cell? ⟨g, 1, none⟩ = some (.int .i64 b))
    (C : Calls Tryd.prog 41 #[.agg #[v]] w (fun e w' => e = .returned (.agg M) ∧ Below w.heap.size w w'))
    (CB : ∀ (x y : Int) W, Calls Tryd.prog 50 #[.agg M, .int .i64 x, .int .i64 y] W (SaysB (p x y) W))
    (CR : ∀ (x y : Int) W, Below w.heap.size w W → -90 ≤ x ∧ x ≤ 90 → -90 ≤ y ∧ y ≤ 90 → Calls Tryd.prog 51 #[.agg M, .agg #[.int .i64 x, .int .i64 y]] W (fun e w' => e = .returned (.int .u8 ((rgN (rgV p x y) 8 : Nat) : Int)) ∧ Below W.heap.size W w')) :
    Calls Tryd.prog 48 #[.pointer (some ⟨pb, 0, none⟩)] w (fun e w' => ∃ ao n cap, e = .returned (.slice ao n cap) ∧ OwnS w' w.heap.size (.slice ao n cap) (selE p ((picGrid a b ha hb).list (b * a))) ∧ Below w.heap.size w w') := by
  refine (callsIn_wide (n := 6)).1 ?_
  have HC := Lib.hid C
  have HCB := Lib.hid CB
  have HCR := Lib.hid CR
  have HM := Lib.hid hM
  have HI : Hid ((Tryd.prog.info? 58).map (·.size) = some M.size) := by show _ = _; rw [hsz]; exact infoM
  have HZ := Lib.hid (zeros_size.trans hsz.symm)
  have HO := Lib.hid hone
  clear C CB CR hM hone
  obtain ⟨i0, hi, hz0, hz1, hz2⟩ := info_parts infoSp
  refine callsIn_of_wp_marks Tryd.func48 rfl trivial ?_ rfl
  simp only [Tryd.ntmps48, List.size_toArray, List.length_cons, List.length_nil, Nat.reduceAdd, Nat.reduceSub, Array.replicate_succ, Array.replicate_zero, List.push_toArray, List.append_toArray, List.nil_append, List.cons_append]
  gi_wp2_with (refine ⟨trivial, ?_⟩; gi_at_call 41; refine (callsIn_wide.2 HC.out).mono ?_; rintro e w1 ⟨rfl, hb1⟩; refine Hid.out ?_)
  have HB1 := Lib.hid hb1
  clear hb1 hc
  refine Lib.hid ?_
  gi_wp2_with (refine wpListIn_store_new w1 rfl 58 _ _ rfl M rfl rfl 58 zeros HI.out HZ.out HO.out ?_; refine Hid.out ?_)
  have b1 : Hid (Blk (w1.alloc (.cells M 58)) w1.heap.size M 58) := heap_alloc_last w1 _
  have HB2 := Lib.hid (HB1.out.alloc HB1.out.size (.cells M 58))
  have b2 := Lib.hid (Blk.alloc b1.out (.cells #[.slice none 0 0] 38))
  refine Lib.hid ?_
  gi_wp2_with (first | (refine wpListIn_load_row rfl 58 _ rfl w1.heap.size rfl 58 M (0, 0) _ b2.out Tryd.underlying58 rfl HI.out ?_) | (refine ⟨trivial, ?_⟩; gi_at_call 49; refine (callsIn_wide.2 (spots_any M 0 _ hsz)).mono ?_; rintro e w3 ⟨rfl, rfl⟩; refine Hid.out ?_))
  have b3 : Hid (Blk (((w1.alloc (.cells M 58)).alloc (.cells #[.slice none 0 0] 38)).alloc (.cells M 58)) (w1.heap.size + 1 + 1) M 58) := by
    have := heap_alloc_last ((w1.alloc (.cells M 58)).alloc (.cells #[.slice none 0 0] 38)) (.cells M 58)
    simp only [World.size_alloc] at this
    exact this
  have HB4 := Lib.hid (((HB2.out.alloc HB2.out.size (.cells #[.slice none 0 0] 38)).alloc (by have := HB2.out.size; simp at this ⊢; omega) (.cells M 58)).alloc (by have := HB2.out.size; simp at this ⊢; omega) (.cells #[.int .i64 0] 2))
  have b4 : Hid (Boxed ((w1.alloc (.cells M 58)).alloc (.cells #[.slice none 0 0] 38)) (w1.heap.size + 1) 38 (.slice none 0 0)) := by
    have := heap_alloc_last (w1.alloc (.cells M 58)) (.cells #[.slice none 0 0] 38)
    simp only [World.size_alloc] at this
    exact this
  have b5 : Hid (Boxed ((((w1.alloc (.cells M 58)).alloc (.cells #[.slice none 0 0] 38)).alloc (.cells M 58)).alloc (.cells #[.int .i64 0] 2)) (w1.heap.size + 1 + 1 + 1) 2 (.int .i64 0)) := by
    have := heap_alloc_last (((w1.alloc (.cells M 58)).alloc (.cells #[.slice none 0 0] 38)).alloc (.cells M 58)) (.cells #[.int .i64 0] 2)
    simp only [World.size_alloc] at this
    exact this
  obtain ⟨W0, hW0⟩ : ∃ W0, ((((w1.alloc (.cells M 58)).alloc (.cells #[.slice none 0 0] 38)).alloc (.cells M 58)).alloc (.cells #[.int .i64 0] 2)) = W0 := ⟨_, rfl⟩
  have hs0 : W0.heap.size = w1.heap.size + 1 + 1 + 1 + 1 := by rw [← hW0]; simp
  have c1 : Blk W0 w1.heap.size M 58 := by rw [← hW0]; exact (b2.out.alloc _).alloc _
  have c2 : Blk W0 (w1.heap.size + 1 + 1) M 58 := by rw [← hW0]; exact b3.out.alloc _
  have c3 : Boxed W0 (w1.heap.size + 1) 38 (.slice none 0 0) := by rw [← hW0]; exact (b4.out.alloc _).alloc _
  have c4 : Boxed W0 (w1.heap.size + 1 + 1 + 1) 2 (.int .i64 0) := by rw [← hW0]; exact b5.out
  have HB5 : Below w.heap.size w W0 := by rw [← hW0]; exact HB4.out
  have hm0 : w.heap.size ≤ w1.heap.size := HB1.out.size
  rw [hW0]
  clear b1 b2 b3 b4 b5 HB1 HB2 HB4 hW0
  obtain ⟨m0, hm⟩ : ∃ m0, w1.heap.size = m0 := ⟨_, rfl⟩
  rw [hm] at hs0 c1 c2 c3 c4 hm0
  rw [hm]
  clear hm
  refine Lib.hid ?_
  gi_wp2
  refine wpIn_rangeFunc_ownH rfl (by omega) (gf := 67) (lb := #[.pointer (some ⟨m0 + 1 + 1 + 1, 0, none⟩), .pointer (some ⟨m0 + 1 + 1, 0, none⟩)]) rfl trivial (enters_of Tryd.func67 (by kernel_rfl) rfl)
    (spots_stops (picGrid a b ha hb) M a b (m0 + 1 + 1) (m0 + 1 + 1 + 1) ha.2 hb.2 (by show 0 ≤ 2; omega) (by show a = a + 2 * 0; omega) (by show b = b + 2 * 0; omega) (fun W h => HM.out W _ h) Fence.wide (6 - 1) trivial rfl (by omega) W0 c2 c4) two2_t (two2_b (by omega) (by omega)) (Below.refl _ _) (fun _ => rfl)
    (fun pre W => ((((Blk W m0 M 58 ∧ Blk W (m0 + 1 + 1) M 58) ∧ Boxed W (m0 + 1 + 1 + 1) 2 (.int .i64 0)) ∧ (∃ u, Boxed W (m0 + 1) 38 u ∧ W.ownsRow w.heap.size 71 2 u (selE p pre).length (flat2 (selE p pre)) ∧ (∃ ao m cap, u = .slice ao m cap))) ∧ Below w.heap.size w W))
    (fun _ _ _ => False)
    (OwnFrom.and (OwnFrom.and (OwnFrom.and (OwnFrom.and (Own.from (Blk.own _ _ _) _) (Own.from (Blk.own _ _ _) _)) (Own.from (boxed_own _ _ _) _)) (Own.from (holdsRow_own w.heap.size (m0 + 1) 38 71 2 (fun pre => (selE p pre).length) (fun pre => flat2 (selE p pre)) (fun _ u => ∃ ao m cap, u = .slice ao m cap)) _)) (ownFrom_below (Nat.le_refl _) (by omega)))
    (fun _ _ _ _ _ hs _ _ => hs)
    ⟨⟨⟨⟨c1, c2⟩, c4⟩, ⟨_, c3, World.ownsRow_nil _ _ _ _, _, _, _, rfl⟩⟩, HB5⟩
    (fun x a' W => ∃ Bx, m0 + 1 + 1 + 1 < Bx ∧ Blk W Bx #[.int .i64 x.1.1, .int .i64 x.1.2] 71 ∧ a' = { tmps := #[.pointer (some ⟨pb, 0, none⟩), .slice none 0 0, .pointer (some ⟨m0, 0, none⟩), .pointer (some ⟨m0 + 1, 0, none⟩), .pointer (some ⟨Bx, 0, none⟩), .agg #[v], .agg M, .agg M, .func (.func 67) #[] #[.pointer (some ⟨m0 + 1 + 1 + 1, 0, none⟩), .pointer (some ⟨m0 + 1 + 1, 0, none⟩)], .agg #[.int .i64 x.1.1, .int .i64 x.1.2], undef, undef, undef, undef, undef, undef, undef, undef, undef, undef, undef, undef, undef, undef, undef, undef, undef, undef], defers := [] })
    (fun x a' s X Y row hs hg hrow => by
      obtain ⟨Bx, hBx, h2, he⟩ := hs
      exact ⟨Bx, hBx, Blk.own (β := Unit) _ _ _ () X Y row h2 hg (fun r e => (hrow r e).2), he⟩)
    ?assign ?body ?done ?stop
  case assign =>
    rintro l pre x W K ⟨⟨⟨⟨b1, b2⟩, b4⟩, u, b3, hrow, hu⟩, hB⟩ hK
    have hs := hB.size
    have hlt := b4.lt
    simp only [encP]
    gi_wp2
    exact hK _ _ ((KeepsOthers.alloc _ _).from _) (two2_below b2.lt b4.lt (Joins.below_alloc1 _ _)) ⟨⟨⟨⟨b1.alloc _, b2.alloc _⟩, b4.alloc _⟩, u, b3.alloc _, hrow.alloc _, hu⟩, hB.alloc hs _⟩ ⟨W.heap.size, hlt, heap_alloc_last W _, rfl⟩
  case body =>
    rintro l pre x a' W hl _ ⟨⟨⟨⟨b1, b2⟩, b4⟩, u, b3, hrow, ao, m, cap, rfl⟩, hB⟩ ⟨Bx, hBx, h2, rfl⟩ hlt
    have hs := hB.size
    have x0 : W.cell? ⟨Bx, 0, none⟩ = some (.int .i64 x.1.1) := by rw [Joins.cell_of_block h2 0]; rfl
    have x1 : W.cell? ⟨Bx, 1, none⟩ = some (.int .i64 x.1.2) := by rw [Joins.cell_of_block h2 1]; rfl
    have hin := x.2
    have HRow := Lib.hid hrow
    have hlen := selE_len p pre
    have hsn := selE_snoc p pre x
    have hltN : pre.length < 256 := Nat.lt_of_lt_of_le hlt (Nat.mul_le_mul hb.2 ha.2)
    have B1 := Lib.hid b1
    have B2 := Lib.hid b2
    have B3 := Lib.hid b3
    have B4 := Lib.hid b4
    have H2 := Lib.hid h2
    have HB := Lib.hid hB
    obtain ⟨xa, hxa⟩ : ∃ t, x.1.1 = t := ⟨_, rfl⟩
    obtain ⟨xb, hxb⟩ : ∃ t, x.1.2 = t := ⟨_, rfl⟩
    rw [hxa, hxb] at hsn H2
    rw [hxa] at x0
    rw [hxb] at x1
    unfold InPic at hin
    rw [hxa, hxb] at hin
    have CBx := Lib.hid (HCB.out xa xb W)
    rw [hxa, hxb]
    obtain ⟨bt, hbt⟩ : ∃ t, p xa xb = t := ⟨_, rfl⟩
    rw [hbt] at hsn CBx
    clear hrow b1 b2 b3 b4 h2 hB hbt hxa hxb
    cases bt with
    | false =>
      have hsn' : selE p (pre ++ [x]) = selE p pre := by rw [hsn]; simp
      have HSn := Lib.hid hsn'
      clear hsn hsn'
      gi_wp2_with (first | (refine wpListIn_load_row_g rfl 58 _ rfl m0 rfl 58 M (0, 0) _ B1.out Tryd.underlying58 rfl HI.out ?_) | (refine ⟨trivial, ?_⟩; gi_at_call 50; refine (CallsIn.inRound l (callsIn_wide.2 CBx.out)).mono ?_; rintro e w4 ⟨rfl, hb4⟩; refine Hid.out ?_))
      refine Lib.hid ?_
      gi_wp2
      refine ⟨trivial, ?_⟩
      gi_wp2
      refine ⟨trivial, ?_⟩
      gi_wp2
      refine ⟨keeps_below _ hb4, two2_below B2.out.lt B4.out.lt hb4, ⟨⟨⟨⟨B1.out.below hb4, B2.out.below hb4⟩, Boxed.below' B4.out hb4⟩, _, Boxed.below' B3.out hb4, ?_, _, _, _, rfl⟩, HB.out.trans (hb4.mono hs)⟩⟩
      rw [HSn.out]
      exact own_below HRow.out hb4
    | true =>
      rw [Bool.true_and] at hsn
      gi_wp2_with (first | (refine wpListIn_load_row_g rfl 58 _ rfl m0 rfl 58 M (0, 0) _ B1.out Tryd.underlying58 rfl HI.out ?_) | (refine ⟨trivial, ?_⟩; gi_at_call 50; refine (CallsIn.inRound l (callsIn_wide.2 CBx.out)).mono ?_; rintro e w4 ⟨rfl, hb4⟩; refine Hid.out ?_))
      have D1 := Lib.hid (B1.out.below hb4)
      have D2 := Lib.hid (B2.out.below hb4)
      have D3 := Lib.hid (Boxed.below' B3.out hb4)
      have D4 := Lib.hid (Boxed.below' B4.out hb4)
      have DH := Lib.hid (Blk.below H2.out hb4)
      have DB := Lib.hid (HB.out.trans (hb4.mono hs))
      have DR := Lib.hid (own_below HRow.out hb4)
      have DK := Lib.hid (keeps_below w.heap.size hb4)
      have DKk := Lib.hid (keeps_below W0.heap.size hb4)
      have DT := Lib.hid (two2_below B2.out.lt B4.out.lt hb4)
      have y0 : w4.cell? ⟨Bx, 0, none⟩ = some (.int .i64 xa) := by rw [Joins.cell_of_block DH.out 0]; rfl
      have y1 : w4.cell? ⟨Bx, 1, none⟩ = some (.int .i64 xb) := by rw [Joins.cell_of_block DH.out 1]; rfl
      have CRx := Lib.hid (HCR.out xa xb w4 DB.out (by omega) (by omega))
      clear hb4 x0 x1 CBx
      refine Lib.hid ?_
      gi_wp2_with (first | (refine wpListIn_load_row_g rfl 58 _ rfl m0 rfl 58 M (0, 0) _ D1.out Tryd.underlying58 rfl HI.out ?_) | (refine ⟨trivial, ?_⟩; gi_at_call 51; refine (CallsIn.inRound l (callsIn_wide.2 CRx.out)).mono ?_; rintro e w5 ⟨rfl, hb5⟩; refine Hid.out ?_))
      have E1 := Lib.hid (D1.out.below hb5)
      have E2 := Lib.hid (D2.out.below hb5)
      have E3 := Lib.hid (Boxed.below' D3.out hb5)
      have E4 := Lib.hid (Boxed.below' D4.out hb5)
      have EH := Lib.hid (Blk.below DH.out hb5)
      have EB := Lib.hid (DB.out.trans (hb5.mono DB.out.size))
      have ER := Lib.hid (own_below DR.out hb5)
      have EKk := Lib.hid (DKk.out.trans (keeps_below W0.heap.size hb5))
      have ET := Lib.hid (two2_t DT.out (two2_below D2.out.lt D4.out.lt hb5))
      have CLx := Lib.hid (blacks_any (rgV p xa xb) w5)
      clear hb5 y0 y1 CRx D1 D2 D3 D4 DH DB DR DK DKk DT
      obtain ⟨N, hNn⟩ : ∃ N, cntF (rgV p xa xb) 8 = N := ⟨_, rfl⟩
      rw [hNn] at CLx hsn
      clear hNn
      refine Lib.hid ?_
      gi_wp2_with (refine ⟨trivial, ?_⟩; gi_at_call 52; refine (CallsIn.inRound l (callsIn_wide.2 CLx.out)).mono ?_; rintro e w6 ⟨rfl, hb6⟩; refine Hid.out ?_)
      have F1 := Lib.hid (E1.out.below hb6)
      have F2 := Lib.hid (E2.out.below hb6)
      have F3 := Lib.hid (Boxed.below' E3.out hb6)
      have F4 := Lib.hid (Boxed.below' E4.out hb6)
      have FH := Lib.hid (Blk.below EH.out hb6)
      have FB := Lib.hid (EB.out.trans (hb6.mono EB.out.size))
      have FR := Lib.hid (own_below ER.out hb6)
      have FKk := Lib.hid (EKk.out.trans (keeps_below W0.heap.size hb6))
      have FT := Lib.hid (two2_t ET.out (two2_below E2.out.lt E4.out.lt hb6))
      clear hb6 CLx E1 E2 E3 E4 EH EB ER EKk ET
      by_cases h1 : N = 1
      · subst h1
        have hsn' : selE p (pre ++ [x]) = selE p pre ++ [(xa, xb)] := by rw [hsn]; simp
        have HSn := Lib.hid hsn'
        have k1 : (((1 : Nat) : Int) == 1) = true := rfl
        have hroww := FR.out
        have b3w := F3.out
        have hsw := FB.out.size
        have hc := b3w.cell
        have y0 : w6.cell? ⟨Bx, 0, none⟩ = some (.int .i64 xa) := by rw [Joins.cell_of_block FH.out 0]; rfl
        have y1 : w6.cell? ⟨Bx, 1, none⟩ = some (.int .i64 xb) := by rw [Joins.cell_of_block FH.out 1]; rfl
        obtain ⟨L, hL⟩ : ∃ L, selE p pre = L := ⟨_, rfl⟩
        rw [hL] at HSn hroww hlen
        have hlL : L.length ≤ 256 := by omega
        have hltw := FH.out.lt
        clear hsn hsn' hL FR F3 HRow
        refine Lib.hid ?_
        gi_wp2_with (gi_at_builtin; refine wpListIn_append_own _ rfl _ _ 38 rfl w.heap.size 71 i0 (.agg #[.int .i64 0, .int .i64 0]) 2 16 Tryd.underlying38 hi hz0 hz1 hz2 rfl (by decide) _ _ _ rfl (hroww.alloc _) ⟨w6.heap.size, 0, none⟩ 1 1 [.int .i64 xa, .int .i64 xb] rfl rfl (two_cells_new _ _ _ _) (by intro u hu; simp at hu; rcases hu with rfl | rfl <;> rfl) (by unfold maxLen; omega) (by omega) (by simp; omega) ?_; intro v' w7 hown' hgrow _; obtain ⟨g', cap', rfl⟩ := ownsRow_succ hown'; obtain ⟨hv1, hv2, hr2, hk2, hb2⟩ := b3w.appended (by decide) hroww hsw (by omega) hown' hgrow; have hc1 := hv1.cell; have hf1 := hv1.frozen)
        have G1 := ((F1.out.alloc (.cells #[.int .i64 xa, .int .i64 xb] 71)).grown (hroww.alloc _) (by decide) hgrow).set (B := m0 + 1) (by omega) (.slice (some ⟨g', 0, none⟩) (L.length + 1) cap')
        have G2 := ((F2.out.alloc (.cells #[.int .i64 xa, .int .i64 xb] 71)).grown (hroww.alloc _) (by decide) hgrow).set (B := m0 + 1) (by omega) (.slice (some ⟨g', 0, none⟩) (L.length + 1) cap')
        have G4 : Boxed _ _ _ _ := ((Boxed.alloc F4.out (.cells #[.int .i64 xa, .int .i64 xb] 71)).kept hgrow (F4.out.not_row (by decide) hroww)).other (B' := m0 + 1) (by omega) (.slice (some ⟨g', 0, none⟩) (L.length + 1) cap')
        refine ⟨FKk.out.trans (hk2.from _), two2_t FT.out ⟨Eq.trans G2 (Eq.symm F2.out), Eq.trans G4 (Eq.symm F4.out)⟩, ⟨⟨⟨⟨G1, G2⟩, G4⟩, _, hv2, ?_, _, _, _, rfl⟩, FB.out.trans hb2⟩⟩
        rw [HSn.out, flat2_snoc, List.length_append]
        exact hr2
      · have hsn' : selE p (pre ++ [x]) = selE p pre := by rw [hsn]; simp [h1]
        have HSn := Lib.hid hsn'
        have k1 : ((N : Int) == 1) = false := by simp; omega
        clear hsn hsn'
        refine Lib.hid ?_
        gi_wp2
        refine ⟨FKk.out, FT.out, ⟨⟨⟨⟨F1.out, F2.out⟩, F4.out⟩, _, F3.out, ?_, _, _, _, rfl⟩, FB.out⟩⟩
        rw [HSn.out]
        exact FR.out
  case done =>
    rintro D ys W hD rfl ⟨⟨⟨⟨b1, b2⟩, b4⟩, u, b3, hrow, ao, m, cap, rfl⟩, hB⟩ hK
    have hc := b3.cell
    gi_wp2
    refine ⟨by simp, .inl ⟨_, _, rfl, run_takeDeferred hK, ?_⟩⟩
    refine ⟨_, results_tmp rfl _ _ _, ao, m, cap, rfl, ?_, ?_⟩
    · exact ownsRow_putObj hrow _ hK rfl
    · exact hB.trans (belowK_b (w := w) (Nat.le_refl _) _ D _ _ (by omega) hK rfl rfl)
  case stop =>
    rintro D c pre W _ _ h _
    exact h.elim

/-- what comes of all spots -/
theorem selE_range (p : Int → Int → Bool) (a b : Nat) (ha : 0 < a ∧ a ≤ 16) (hb : 0 < b ∧ b ≤ 16) (f : Nat → Nat → Bool) (hf : ∀ x y : Nat, x < a → y < b → p (x : Int) (y : Int) = f y x) :
    ∀ t, t ≤ a * b → selE p ((picGrid a b ha hb).list t) = ((List.range t).filterMap fun i => if f (i / a) (i % a) then some (((i % a : Nat) : Int), ((i / a : Nat) : Int)) else none).filter fun q => decide (cntF (rgV p q.1 q.2) 8 = 1)
  | 0, _ => rfl
  | t + 1, h => by
    have h1 : t % a < a := Nat.mod_lt _ ha.1
    have h2 : t / a < b := Nat.div_lt_of_lt_mul (by omega)
    have e : ((picGrid a b ha hb).at t).1 = (((t % a : Nat) : Int), ((t / a : Nat) : Int)) := by
      show ((((t % a : Nat) : Int) - ((0 : Nat) : Int)), (((t / a % b : Nat) : Int) - ((0 : Nat) : Int))) = _
      rw [Nat.mod_eq_of_lt h2]
      simp
    rw [Grid.list_snoc, selE_snoc, selE_range p a b ha hb f hf t (by omega), List.range_succ, List.filterMap_append, List.filter_append]
    congr 1
    rw [e]
    simp only [hf _ _ h1 h2]
    clear e
    simp only [List.filterMap_cons, List.filterMap_nil]
    generalize ((t % a : Nat) : Int) = X
    generalize ((t / a : Nat) : Int) = Y
    cases hft : f (t / a) (t % a) with
    | false => simp
    | true =>
      by_cases hc : cntF (rgV p X Y) 8 = 1
      · simp [hc, List.filter]
      · simp [hc, List.filter]
end Go.Proofs.YtaopdhncapoefaaDoor
