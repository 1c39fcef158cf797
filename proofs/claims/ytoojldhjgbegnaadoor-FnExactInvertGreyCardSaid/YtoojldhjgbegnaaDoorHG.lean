/- A grey picture among the arguments, opened: its rows lie there, and their numbers. -/
import Derived.Test.YtoojldhjgbegnaaDoorFr
import Derived.Test.YtoojldhjgbegnaaDoorGB
import Derived.Deep.Slices
import Derived.Deep.MidRow
import Derived.Test.YtoojldhjgbegnaaDoorI2
import Derived.Test.YtoojldhjgbegnaaDoorGA
import Derived.Test.YtoojldhjgbegnaaDoorAL1
import Derived.Test.YtoojldhjgbegnaaDoorHd
import Derived.Test.YtoojldhjgbegnaaDoorPb
import Derived.Deep.RegionHeld3
import Derived.Deep.DeepCutAuto
namespace Go.Proofs.YtoojldhjgbegnaaDoor
open Go.ChangeShapes Go.WideShapes Go.ChangeAt Go.RowKit Go.Deep Go.WideElems
set_option linter.unusedVariables false
set_option maxRecDepth 100000

theorem ints_someG {w : World} {b off n : Nat} (h : ∀ i, i < n → ∃ x : Int, w.cell? ⟨b, off + i, none⟩ = some (.int .i64 x)) :
    ∃ ns : List Int, ns.length = n ∧ ∀ i, i < n → w.cell? ⟨b, off + i, none⟩ = some (.int .i64 (ns.getD i 0)) := by
  induction n with
  | zero => exact ⟨[], rfl, fun i hi => by omega⟩
  | succ n ih =>
    obtain ⟨xs, hl, hx⟩ := ih (fun i hi => h i (by omega))
    obtain ⟨x, h1⟩ := h n (by omega)
    refine ⟨xs ++ [x], by simp [hl], fun i hi => ?_⟩
    by_cases e : i < n
    · have := hx i e
      rwa [show (xs ++ [x]).getD i 0 = xs.getD i 0 from by rw [List.getD_eq_getElem?_getD, List.getD_eq_getElem?_getD, List.getElem?_append_left (by omega)]]
    · obtain rfl : i = n := by omega
      rw [show (xs ++ [x]).getD i 0 = x from by rw [List.getD_eq_getElem?_getD, List.getElem?_append_right (by omega), hl, Nat.sub_self]; rfl]
      exact h1
theorem rows_someG {w : World} {b off n : Nat} (h : ∀ i, i < n → ∃ (u : Value) (ns : List Int), w.cell? ⟨b, off + i, none⟩ = some u ∧ SlN w u ns ∧ ns.length ≤ maxLen) :
    ∃ (us : Nat → Value) (gs : List (List Int)), gs.length = n ∧ ∀ i, i < n → w.cell? ⟨b, off + i, none⟩ = some (us i) ∧ SlN w (us i) (rowF gs i) ∧ (rowF gs i).length ≤ maxLen := by
  induction n with
  | zero => exact ⟨fun _ => .slice none 0 0, [], rfl, fun i hi => by omega⟩
  | succ n ih =>
    obtain ⟨us, gs, hl, hx⟩ := ih (fun i hi => h i (by omega))
    obtain ⟨u, ns, h1, h2, h3⟩ := h n (by omega)
    refine ⟨fun i => if i = n then u else us i, gs ++ [ns], by simp [hl], fun i hi => ?_⟩
    by_cases e : i < n
    · have e2 : rowF (gs ++ [ns]) i = rowF gs i := by
        unfold rowF
        rw [List.getD_eq_getElem?_getD, List.getD_eq_getElem?_getD, List.getElem?_append_left (by omega)]
      have e3 : (if i = n then u else us i) = us i := if_neg (by omega)
      show _ = some (if i = n then u else us i) ∧ SlN w (if i = n then u else us i) _ ∧ _
      rw [e3, e2]
      exact hx i e
    · obtain rfl : i = n := by omega
      have e2 : rowF (gs ++ [ns]) i = ns := by
        unfold rowF
        rw [List.getD_eq_getElem?_getD, List.getElem?_append_right (by omega), hl, Nat.sub_self]; rfl
      have e3 : (if i = i then u else us i) = u := if_pos rfl
      show _ = some (if i = i then u else us i) ∧ SlN w (if i = i then u else us i) _ ∧ _
      rw [e3, e2]
      exact ⟨h1, h2, h3⟩
theorem cellsGreyL : Tryd.prog.cellsOf 24 = 1 := by kernel_rfl

theorem open_rowN {H : Type} {enc : TypeId × Value → H} {W : World} {v0 : Value} {y : DataW H × List MemPlace} {fuel : Nat}
    (hf : DataW.trod enc Tryd.prog W 0 (fun _ => true) true fuel 48 [v0] = some y) : ∃ ns : List Int, SlN W v0 ns ∧ ns.length ≤ maxLen := by
  rcases open_slice1 Tryd.underlying48 (by kernel_rfl) hf with ⟨hcs, _⟩ | ⟨a, len, cap, m, n, V, D, Pl, hcs, _, hl, hm, hmm, _, hx⟩
  · simp at hcs
    subst hcs
    exact ⟨[], Or.inl ⟨none, 0, rfl, rfl⟩, by simp⟩
  · simp at hcs
    subst hcs
    have hm' : m = cap := by simpa using hmm
    by_cases h0 : len = 0
    · subst h0
      exact ⟨[], Or.inl ⟨_, _, rfl, rfl⟩, by simp⟩
    · obtain ⟨b, off, spot⟩ := a
      have hc := (hx 0 (by omega)).1
      have hspot : spot = none := by simpa [Addr.add] using World.cell?_spot hc
      subst hspot
      have hblk : b < W.heap.size := blk_lt (o := off) (v := V 0) (by simpa [Addr.add] using hc)
      obtain ⟨xs, hlen, hxs⟩ := ints_someG (w := W) (b := b) (off := off) (n := len) (fun i hi => by
        obtain ⟨g0, t0⟩ := hx i (by omega)
        obtain ⟨n0, e0, _, _⟩ := DataW.trod_int Tryd.underlying2 t0
        simp only [List.cons.injEq, and_true] at e0
        rw [Addr.add_mid] at g0
        exact ⟨n0, by rw [g0, e0]⟩)
      exact ⟨xs, Or.inr ⟨b, off, cap, by rw [hlen], by omega, hblk, fun i hi => hxs i (by omega)⟩, by omega⟩
theorem open_rowsN {H : Type} {enc : TypeId × Value → H} {W : World} {v0 : Value} {y : DataW H × List MemPlace} {fuel : Nat}
    (hf : DataW.trod enc Tryd.prog W 0 (fun _ => true) true fuel 22 [v0] = some y) : ∃ gs : List (List Int), SlG W v0 gs ∧ gs.length ≤ maxLen ∧ ∀ i, i < gs.length → (rowF gs i).length ≤ maxLen := by
  rcases open_slice1 Tryd.underlying22 (by kernel_rfl) hf with ⟨hcs, _⟩ | ⟨a, len, cap, m, n, V, D, Pl, hcs, _, hl, hm, hmm, _, hx⟩
  · simp at hcs
    subst hcs
    exact ⟨[], Or.inl ⟨none, 0, rfl, rfl⟩, by simp, fun i hi => absurd hi (Nat.not_lt_zero i)⟩
  · simp at hcs
    subst hcs
    have hm' : m = cap := by simpa using hmm
    by_cases h0 : len = 0
    · subst h0
      exact ⟨[], Or.inl ⟨_, _, rfl, rfl⟩, by simp, fun i hi => absurd hi (Nat.not_lt_zero i)⟩
    · obtain ⟨b, off, spot⟩ := a
      have hc := (hx 0 (by omega)).1
      have hspot : spot = none := by simpa [Addr.add] using World.cell?_spot hc
      subst hspot
      have hblk : b < W.heap.size := blk_lt (o := off) (v := V 0) (by simpa [Addr.add] using hc)
      obtain ⟨us, gs, hlen, hxs⟩ := rows_someG (w := W) (b := b) (off := off) (n := len) (fun i hi => by
        obtain ⟨g0, t0⟩ := hx i (by omega)
        obtain ⟨ns, h1, h2⟩ := open_rowN t0
        rw [Addr.add_mid] at g0
        exact ⟨V i, ns, g0, h1, h2⟩)
      refine ⟨gs, Or.inr ⟨b, off, cap, us, by rw [hlen], by omega, hblk, fun i hi => ?_⟩, by omega, fun i hi => (hxs i (by omega)).2.2⟩
      have := hxs i (by omega)
      exact ⟨this.1, this.2.1⟩
/-- WHAT A GREY PICTURE AMONG THE ARGUMENTS IS -/
theorem open_grey {H : Type} {enc : TypeId × Value → H} {W : World} {v : Value} {d : DataW H} {p : List MemPlace} {b0 : Nat} {r : Reach} (hv : Value.okWide Tryd.prog W r b0 24 v)
    (h : DataW.Trod enc Tryd.prog W 0 (fun _ => true) true 24 v d p) : ∃ (u : Value) (gs : List (List Int)), v = .agg #[u] ∧ SlG W u gs ∧ gs.length ≤ maxLen ∧ ∀ i, i < gs.length → (rowF gs i).length ≤ maxLen := by
  obtain ⟨u, y, n, rfl, _, _, hy⟩ := open_agg1 Tryd.underlying24 (by kernel_rfl) cellsGreyL hv h
  obtain ⟨gs, h1, h2, h3⟩ := open_rowsN hy
  exact ⟨u, gs, rfl, h1, h2, h3⟩
end Go.Proofs.YtoojldhjgbegnaaDoor

/- Contracts of single functions, and plain lemmas, on which the exact laws of this seat rest; each holds under the conditions that it states. -/
namespace Go.Proofs.YtoojldhjgbegnaaDoor
set_option linter.unusedVariables false
set_option linter.unusedSimpArgs false
open Go.RowKit
attribute [local go_sem] Oper.semAt_some

theorem ivGs_rl (gs : List (List Int)) (y : Nat) (hy : y < gs.length) : (rowF (ivGs gs) y).length = (rowF gs 0).length := by
  have e1 : rowF (ivGs gs) y = (List.range (rowF gs 0).length).map fun x => 99 - (rowF gs y).getD x 0 := by
    show (ivGs gs).getD y [] = _
    unfold ivGs
    rw [List.getD_eq_getElem?_getD, List.getElem?_map, List.getElem?_range hy]
    rfl
  rw [e1]; simp
theorem ivGp_bnd (gs : List (List Int)) : (ivGp gs).length + totG (ivGp gs) ≤ 1000 := by
  unfold ivGp
  cases h : vG 99 gs with
  | false => simp [totG, offR]
  | true =>
    have V := vg_of h
    have hl := ivGs_len gs
    have hb := offR_bound (rowF (ivGs gs)) 16 (ivGs gs).length (fun i hi => by rw [ivGs_rl gs i (by omega)]; exact V.w16)
    have := V.n16
    unfold totG
    show (ivGs gs).length + offR (rowF (ivGs gs)) (ivGs gs).length ≤ 1000
    omega
theorem call_Invert1 (args : Array Value) (W : World) : (callFunc 31 args).run Tryd.prog W = .ok (.enter 31 args) W := by simp [go_sem]

set_option maxHeartbeats 2000000 in
set_option maxRecDepth 100000 in
theorem impl_Invert (v : Value) (gs : List (List Int)) (w : World) (hN : gs.length ≤ 1048576) (hf : ∀ i, i < gs.length → (rowF gs i).length ≤ 1048576) (hv : SlG w v gs) (hr : NoRes w) :
    Calls Tryd.prog 10 #[.agg #[v]] w (SaysGrey (ivGp gs) (vG 99 gs) w) := by
  obtain ⟨W0, hW0⟩ : ∃ W0, (w.alloc (.cells #[v] 26)).alloc (.cells #[.slice none 0 0] 26) = W0 := ⟨_, rfl⟩
  have hs0 : W0.heap.size = w.heap.size + 1 + 1 := by rw [← hW0]; simp
  have hb0 : Below w.heap.size w W0 := by rw [← hW0]; exact Joins.below_alloc2 _ _ _
  have p0 : W0.heap[w.heap.size]? = some (.cells #[v] 26 (0, 0)) := by
    rw [← hW0, Below.heap_alloc _ _ _ (by first | (simp; done) | (simp; omega))]; exact heap_alloc_last w _
  have p1 : W0.heap[w.heap.size + 1]? = some (.cells #[.slice none 0 0] 26 (0, 0)) := by
    rw [← hW0]
    exact heap_alloc2_new _ _ _
  have HW := Lib.hid hW0
  have HB0 := Lib.hid hb0
  have KR : Hid (∀ W, Below W0.heap.size W0 W → W.heap[w.heap.size + 1]? = some (.cells #[.slice none 0 0] 26 (0, 0))) := fun W hb => (hb.block _ (by omega)).trans p1
  have C : Hid (Calls Tryd.prog 30 #[.agg #[v], .func (.func 31) #[] #[]] W0 (SaysGrey (ivGp gs) (vG 99 gs) W0)) :=
    changedGrey_any 31 call_Invert1 v gs (ivGs gs) W0 hN hf (hv.below hb0) (hr.below hb0) (fun hok W hb => by rw [ivGs_len]; exact inv1_any v gs W (vg_of hok) ((hv.below hb0).below hb))
  have c0 := cell_of_one p0
  obtain ⟨P, hP⟩ : ∃ P, ivGp gs = P := ⟨_, rfl⟩
  obtain ⟨ok, hok⟩ : ∃ b, vG 99 gs = b := ⟨_, rfl⟩
  rw [hP, hok] at C ⊢
  unfold SaysGrey at C
  clear hv hr hf p0 p1 hb0 hW0 hP hok
  go_enter Tryd.func10, Tryd.ntmps10
  go_upto_region 1 with fail
  rw [HW.out]
  go_wp2_with fail
  refine C.out.mono ?_
  rintro e w1 ⟨ao, n, cap, rfl, ⟨us, hown⟩, hb1⟩
  have hp1 := KR.out _ hb1
  have hfr : w1.frozen? ⟨w.heap.size + 1, 0, none⟩ = false := free_of_one hp1
  have hc2 : w1.cell? ⟨w.heap.size + 1, 0, none⟩ = some (.slice none 0 0) := cell_of_one hp1
  have O2 : Hid (OwnG (w1.setCell ⟨w.heap.size + 1, 0, none⟩ (.slice ao n cap)) w.heap.size (w1.setCell ⟨w.heap.size + 1, 0, none⟩ (.slice ao n cap)).heap.size (.slice ao n cap) P) :=
    ⟨us, (hown.set (w.heap.size + 1) _ (by omega)).mono (by omega) (by simp)⟩
  have B1 : Hid (Below w.heap.size w w1) := HB0.out.trans (hb1.mono HB0.out.size)
  have P5 := Lib.hid hp1
  clear hb1 hp1 hown
  go_wp2_with fail
  refine bodyPost_ret (v := .tuple #[.agg #[.slice ao n cap], .bool ok]) (by simp [results, Tryd.results10, go_sem, cell_of_one (one_setCell P5.out)]) rfl ⟨_, _, _, rfl, O2.out, B1.out.setCell (by show w.heap.size ≤ w.heap.size + 1; omega) _⟩
end Go.Proofs.YtoojldhjgbegnaaDoor

/- Contracts of single functions, and plain lemmas, on which the exact laws of this seat rest; each holds under the conditions that it states. -/
namespace Go.Proofs.YtoojldhjgbegnaaDoor
set_option linter.unusedVariables false
open Go.RowKit

set_option maxHeartbeats 400000 in
theorem szStringS_any (v : Value) (ss : List ByteArray) (left : Int) (w : World) (h0 : 0 ≤ left) (h1 : left ≤ 1048576) (hN : ss.length ≤ maxLen) (hz : ∀ s ∈ ss, s.size ≤ maxLen) (hv : Sl w v ss) :
    Calls Tryd.prog 70 #[v, .int .i64 left] w (SomeSz left ss w) := by
  unfold maxLen at hN hz
  rcases hv with ⟨ao, cap, rfl, rfl⟩ | ⟨b, off, cap, rfl, hpos, hb, hc⟩
  · go_enter Tryd.func70, Tryd.ntmps70
    go_wp2
    refine wp_loop_rounds 1 ?_; rw [rounds_succ]
    go_wp2
    go_ret
    exact ⟨_, rfl, by omega, by omega, fun _ => ⟨by simpa using h0, fun s h => by cases h⟩, Below.refl _ _⟩
  · obtain ⟨n, hn⟩ : ∃ n, ss.length = n := ⟨_, rfl⟩
    rw [hn] at hc hpos hN ⊢
    have HN := Lib.hid hn
    have HC := Lib.hid hc
    have HZ := Lib.hid hz
    clear hn hc hz
    by_cases hl : left - n < 0
    · go_enter Tryd.func70, Tryd.ntmps70
      go_wp2
      go_ret
      exact ⟨_, rfl, by omega, by omega, fun h => absurd h (by decide), Below.refl _ _⟩
    · go_enter Tryd.func70, Tryd.ntmps70
      go_wp2
      go_loop [1, 5] (fun l i => ∃ (k : Nat) (q : Int), k ≤ n ∧ i = .int .i64 k ∧ l = .int .i64 q ∧ 0 ≤ q ∧ q ≤ left ∧ Hid (∀ j, j < k → ((ss.getD j ByteArray.empty).size : Int) ≤ left)) (fun _ i => n - (intOf i).toNat)
      case atStart => exact ⟨0, left - n, Nat.zero_le _, rfl, rfl, by omega, by omega, fun j h => by omega⟩
      case round =>
        obtain ⟨k, q, hk, rfl, rfl, hq0, hq1, H⟩ := hrel
        by_cases hlt : k < n
        · have hcell := HC.out k hlt
          obtain ⟨s, hs⟩ : ∃ s, ss.getD k ByteArray.empty = s := ⟨_, rfl⟩
          rw [hs] at hcell
          have hsz : s.size ≤ 2 ^ 63 - 1 := by
            rw [← hs]
            refine HZ.out _ ?_
            have hk' : k < ss.length := by rw [HN.out]; exact hlt
            rw [List.getD_eq_getElem?_getD, List.getElem?_eq_getElem hk']
            exact List.getElem_mem _
          have Hs := Lib.hid hs
          clear hs
          by_cases hq : q - s.size < 0
          · go_wp2
            go_ret
            exact ⟨_, rfl, by omega, by omega, fun h => absurd h (by decide), Below.refl _ _⟩
          · go_wp2
            go_round
            case rel => exact ⟨k + 1, q - s.size, by omega, by go_num, rfl, by omega, by omega, fun j hj => by
              by_cases e : j = k
              · subst e; rw [Hs.out]; omega
              · exact H.out j (by omega)⟩
            case measure => simp [intOf]; omega
        · obtain rfl : k = n := by omega
          go_wp2
          go_ret
          exact ⟨_, rfl, by omega, by omega, fun _ => ⟨by rw [HN.out]; omega, fun s hs => by
            obtain ⟨j, hj, rfl⟩ := List.getElem_of_mem hs
            have := H.out j (by rw [HN.out] at hj; exact hj)
            rw [List.getD_eq_getElem?_getD, List.getElem?_eq_getElem hj] at this
            exact this⟩, Below.refl _ _⟩

theorem szPicture_any (v : Value) (ss : List ByteArray) (left : Int) (w : World) (h0 : 0 ≤ left) (h1 : left ≤ 1048576) (hN : ss.length ≤ maxLen) (hz : ∀ s ∈ ss, s.size ≤ maxLen) (hv : Sl w v ss) :
    Calls Tryd.prog 37 #[.agg #[v], .int .i64 left] w (SomeSz left ss w) := by
  go_enter Tryd.func37, Tryd.ntmps37
  go_wp2_with fail
  refine (szStringS_any v ss left _ h0 h1 hN hz (hv.below (Joins.below_alloc1 w _))).mono ?_
  rintro e w' ⟨r, rfl, h2, h3, h4, hb⟩
  by_cases hr : r < 0
  · go_wp2_with fail
    go_ret
    exact ⟨_, rfl, by omega, by omega, fun h => absurd h (by decide), (Joins.below_alloc1 w _).trans (hb.mono (by simp))⟩
  · go_wp2_with fail
    go_ret
    exact ⟨_, rfl, by omega, by omega, h4, (Joins.below_alloc1 w _).trans (hb.mono (by simp))⟩
end Go.Proofs.YtoojldhjgbegnaaDoor

/- Contracts of single functions, and plain lemmas, on which the exact laws of this seat rest; each holds under the conditions that it states. -/
namespace Go.Proofs.YtoojldhjgbegnaaDoor
set_option linter.unusedVariables false
set_option linter.unusedSimpArgs false
open Go.RowKit

set_option maxHeartbeats 12000000 in
set_option maxRecDepth 100000 in
theorem law_InvertGrey (u0 : Value) (gs0 : List (List Int)) (w : World) (hN0 : gs0.length ≤ maxLen) (hr0 : ∀ i, i < gs0.length → (rowF gs0 i).length ≤ maxLen) (hu0 : SlG w u0 gs0) (he0 : NoRes w) :
    Calls Tryd.prog 3 #[.agg #[u0]] w fun e w' => e = .returned (.bool true) ∧ Below w.heap.size w w' := by
  have HSL0 : Hid (∀ W, Below w.heap.size w W → SlG W u0 gs0) := fun W hb => hu0.below hb
  have HEN : Hid (∀ W, Below w.heap.size w W → NoRes W) := fun W hb => he0.below hb
  obtain ⟨W0, hW0⟩ : ∃ W0, (w.alloc (.cells #[u0] 24)) = W0 := ⟨_, rfl⟩
  have b0 : Below w.heap.size w W0 := by rw [← hW0]; exact ((Below.refl w.heap.size w).alloc (by first | (simp; done) | (simp; omega)) _)
  have hp0 : W0.heap[w.heap.size + 0]? = some (.cells #[u0] 24 (0, 0)) := by
    rw [← hW0]
    have := heap_alloc_last w (.cells #[u0] 24)
    simpa using this
  have HC : Hid (∀ W, Below W0.heap.size W0 W → W.cell? ⟨w.heap.size, 0, none⟩ = some u0) := fun W hb => cell_kept hb (by have := Joins.cell_of_block hp0 0; simpa using this)
  have HB : Hid (∀ W, Below W0.heap.size W0 W → Below w.heap.size w W) := fun W hb => b0.trans (hb.mono b0.size)
  have HZ0 : Hid (∀ (left : Int) W, 0 ≤ left → left ≤ 1048576 → Below W0.heap.size W0 W → Calls Tryd.prog 7 #[.agg #[u0], .int .i64 left] W (SomeSzG left gs0 W)) := fun left W h0 h1 hb => szGrey_any u0 gs0 left W h0 h1 hN0 hr0 (HSL0.out _ (HB.out _ hb))
  have HW := Lib.hid hW0
  have l0 := b0.size
  have c0_0 := (HC.out W0 (Below.refl _ _))
  clear b0 hW0 hp0 hu0 he0
  go_enter Tryd.func3, Tryd.ntmps3
  go_wp2_with fail
  rw [HW.out]
  refine (HZ0.out 1048576 _ (by omega) (by omega) (Below.refl _ _)).mono ?_
  rintro e wz0 ⟨r0, rfl, hr0, hs0, hq, hb⟩
  have Vwz0 := Lib.hid (hb)
  clear hb c0_0
  by_cases hr : r0 < 0
  · clear hq
    go_wp2_with fail
    go_ret
    exact ⟨rfl, HB.out _ Vwz0.out⟩
  · have hsm0 : gs0.length + totG gs0 ≤ 1048576 := by have := hq (by omega); omega
    clear hq
    have HTA0 : Hid (∀ W, Below W0.heap.size W0 W → Calls Tryd.prog 9 #[.agg #[u0]] W (TookG W gs0)) := fun W hb => toGrey_any u0 gs0 W (by omega) (rows_small hsm0) (HSL0.out _ (HB.out _ hb))
    have CE0 : Hid (∀ x y W, SlG W x gs0 → SlG W y gs0 → Calls Tryd.prog 11 #[.agg #[x], .agg #[y]] W (SaysB true W)) := fun x y W hx hy => eqGrey_same x y gs0 W (by omega) (rows_max hsm0) hx hy
    obtain ⟨P, ok, hPl, hS, hI⟩ : ∃ (P : List (List Int)) (ok : Bool), P.length + totG P ≤ 1000 ∧ (∀ x0 W, SlG W x0 gs0 → Calls Tryd.prog 8 #[.agg #[x0]] W (SaysGrey P ok W)) ∧ (∀ x0 W, SlG W x0 gs0 → (NoRes W) → Calls Tryd.prog 10 #[.agg #[x0]] W (SaysGrey P ok W)) := ⟨ivGp gs0, vG 99 gs0, ivGp_bnd gs0, fun x0 W a => spec_Invert x0 gs0 W (by omega) (rows_small hsm0) a, fun x0 W a e => impl_Invert x0 gs0 W (by omega) (rows_small hsm0) a e⟩
    have CS := Lib.hid hS
    have CI := Lib.hid hI
    have CE : Hid (∀ x y W, SlG W x P → SlG W y P → Calls Tryd.prog 11 #[.agg #[x], .agg #[y]] W (SaysB true W)) := fun x y W hx hy => eqGrey_same x y P W (by omega) (rows_max (by omega)) hx hy
    obtain ⟨m, hmm, hM, hH⟩ : ∃ m : Int, 0 ≤ m ∧ (∀ v lo hi W, GreyO lo hi v P W → Calls Tryd.prog 12 #[.agg #[v], .int .i64 1] W (fun e w' => e = .returned (.int .i64 m) ∧ GreyO lo hi v (marksG 1 P) w' ∧ Far lo hi W w')) ∧ (∀ v W, SlG W v (marksG 1 P) → Calls Tryd.prog 13 #[.agg #[v], .int .i64 1] W (fun e w' => e = .returned (.int .i64 m) ∧ Below W.heap.size W w')) :=
      ⟨((1 + totG P : Nat) : Int), by omega, fun v lo hi W h => mark_grey v P lo hi 1 W (by omega) (rows_small (by omega)) (by omega) h, fun v W h => heldGrey_any v P 1 W (by omega) (by omega) h⟩
    have CM := Lib.hid hM
    have CH := Lib.hid hH
    obtain ⟨m0, q0, hm0, hqm0, hqb0, hM0⟩ : ∃ (m0 : Int) (q0 : Nat), 0 ≤ m0 ∧ m0 = ((q0 : Nat) : Int) ∧ (1 ≤ q0 ∧ q0 ≤ 2100001) ∧ (∀ v lo hi W, GreyO lo hi v gs0 W → Calls Tryd.prog 12 #[.agg #[v], .int .i64 1] W (fun e w' => e = .returned (.int .i64 m0) ∧ GreyO lo hi v (marksG 1 gs0) w' ∧ Far lo hi W w')) :=
      ⟨((1 + totG gs0 : Nat) : Int), 1 + totG gs0, by omega, rfl, by omega, fun v lo hi W h => by exact mark_grey v gs0 lo hi 1 W (by omega) (rows_small hsm0) (by omega) h⟩
    have CM0 := Lib.hid hM0
    clear hS hI hM hH hPl hM0 hqm0 hqb0
    have HX : Hid (∀ W, Below wz0.heap.size wz0 W → Below W0.heap.size W0 W) := fun W hb => Vwz0.out.trans (hb.mono Vwz0.out.size)
    go_upto_region 5 with fail
    go_cut [4, 5] (fun s8 s9 wx => ∃ (bw : Nat) (ao : Option Addr) (n cap lo hi H : Nat), s8 = .pointer (some ⟨bw, 0, none⟩) ∧ s9 = .bool ok ∧ VarO (GreyO lo hi (.slice ao n cap) P) 26 bw (.slice ao n cap) lo hi wz0.heap.size H wx ∧ H ≤ wx.heap.size ∧ Below wz0.heap.size wz0 wx)
    case first =>
      have cz0 := (HC.out _ (HX.out _ (Below.refl _ _)))
      go_wp2_with fail
      refine (HTA0.out _ (HX.out _ (Below.refl _ _))).mono ?_
      rintro e wa1 ⟨g1, cap1, rfl, hown1, hB1⟩
      clear cz0
      go_wp2_with fail
      refine (CS.out _ _ (GreyO.sl (GreyO.of hown1 (Nat.le_refl _)))).mono ?_
      rintro e wa2 ⟨ao5, n5, cap5, rfl, h5, hb2⟩
      have hB2 : Below wz0.heap.size wz0 wa2 := hB1.trans (hb2.mono hB1.size)
      go_wp2_with fail
      go_meet
      exact ⟨wa2.heap.size, ao5, n5, cap5, _, wa2.heap.size, wa2.heap.size + 1, rfl, rfl, VarO.new (GreyO.of h5 (Nat.le_refl _)) GreyO.liv (Nat.le_refl _) (far_alloc _ _) (by first | exact hB1.size | (have := hB1.size; simp; omega) | simp) hB2.size, by simp, hB2.alloc hB2.size _⟩
    obtain ⟨b5, ao5, n5, cap5, lo5, hi5, H5, rfl, rfl, hp5, hH5, hbx⟩ := hcut
    have PW := Lib.hid hp5
    have Vc := Lib.hid (HX.out _ hbx)
    have lc := hbx.size
    have lz := Vwz0.out.size
    clear hp5 hbx HX
    have c0_0 := (HC.out _ Vc.out)
    go_wp2_with fail
    refine (HTA0.out _ Vc.out).mono ?_
    rintro e w6 ⟨gw6, capw6, rfl, hown, hb⟩
    have lw6 : wc.heap.size ≤ w6.heap.size := by have := hb.size; simpa using this
    have X0 := Lib.hid (VarO.new (t := 26) (v := .slice (some ⟨gw6, 0, none⟩) gs0.length capw6) (L := wc.heap.size) (GreyO.of hown (Nat.le_refl _)) GreyO.liv (Nat.le_refl _) (far_alloc _ _) (by simp) lw6)
    have hba := hb.trans ((Joins.below_alloc1 w6 (.cells #[.slice (some ⟨gw6, 0, none⟩) gs0.length capw6] 26)).mono hb.size)
    have hf := Far.ofB hba
    have PW := Lib.hid (PW.out.far0 hf)
    have Vw6 := Lib.hid (Vc.out.trans (hba.mono Vc.out.size))
    clear hb hown hba hf c0_0 Vc
    have xv0 := X0.out.val
    go_wp2_with fail
    refine (CI.out _ _ (GreyO.sl X0.out.o) (HEN.out _ (HB.out _ Vw6.out))).mono ?_
    rintro e w7 ⟨ao8, n8, cap8, rfl, h8, hb⟩
    have lw7 : w6.heap.size + 1 ≤ w7.heap.size := by have := hb.size; simpa using this
    have G := Lib.hid (VarO.new (t := 26) (v := .slice ao8 n8 cap8) (L := w6.heap.size + 1) (GreyO.of h8 (Nat.le_refl _)) GreyO.liv (Nat.le_refl _) (far_alloc _ _) (by simp) lw7)
    have hba := hb.trans ((Joins.below_alloc1 w7 (.cells #[.slice ao8 n8 cap8] 26)).mono hb.size)
    have hf := Far.ofB hba
    have PW := Lib.hid (PW.out.far0 hf)
    have X0 := Lib.hid (X0.out.far0 hf)
    have Vw7 := Lib.hid (Vw6.out.trans (hba.mono Vw6.out.size))
    clear hb h8 hba hf xv0 Vw6
    have gv := G.out.val
    have pv := PW.out.val
    go_wp2_with fail
    refine (CE.out _ _ _ (GreyO.sl G.out.o) (GreyO.sl PW.out.o)).mono ?_
    rintro e w8 ⟨rfl, hb⟩
    have hf := Far.ofB hb
    have PW := Lib.hid (PW.out.far0 hf)
    have X0 := Lib.hid (X0.out.far0 hf)
    have G := Lib.hid (G.out.far0 hf)
    have Vw8 := Lib.hid (Vw7.out.trans (hb.mono Vw7.out.size))
    have lw8 : w7.heap.size + 1 ≤ w8.heap.size := by have := hb.size; simpa using this
    clear hb hf gv pv Vw7
    have HX : Hid (∀ W, Below w8.heap.size w8 W → W.cell? ⟨w.heap.size, 0, none⟩ = some u0 ∧ W.cell? ⟨w6.heap.size, 0, none⟩ = some (.slice (some ⟨gw6, 0, none⟩) gs0.length capw6)) := fun W hb => ⟨(HC.out _ (Vw8.out.trans (hb.mono Vw8.out.size))), (X0.out.far0 (Far.ofB hb)).val⟩
    have HT1 : Hid (∀ W, Below w8.heap.size w8 W → Calls Tryd.prog 9 #[.agg #[u0]] W (TookG W gs0)) := fun W hb => HTA0.out _ (Vw8.out.trans (hb.mono Vw8.out.size))
    have HE1 : Hid (∀ W x, Below w8.heap.size w8 W → SlG W x gs0 → Calls Tryd.prog 11 #[.agg #[.slice (some ⟨gw6, 0, none⟩) gs0.length capw6], .agg #[x]] W (SaysB true W)) := fun W x hb hx => CE0.out _ x W (GreyO.sl (X0.out.far0 (Far.ofB hb)).o) hx
    go_wp2_with fail
    go_region_held3 (fun w' => w'.cell? ⟨w.heap.size, 0, none⟩ = some u0 ∧ w'.cell? ⟨w6.heap.size, 0, none⟩ = some (.slice (some ⟨gw6, 0, none⟩) gs0.length capw6))
      (first | exact HX.out _ (Below.refl _ _) | exact HX.out _ (Below.refl _ _).drew | exact HX.out _ ((Below.refl _ _).drew.trans hba) | exact HX.out _ (((Below.refl _ _).drew.trans hba).trans (hbb.mono hba.size)))
      (first | (go_at_call 9; refine (HT1.out _ (Below.refl _ _).drew).mono ?_; rintro e w9 ⟨ga, capa, rfl, howna, hba⟩) | (go_at_call 11; refine (HE1.out _ _ ((Below.refl _ _).drew.trans hba) (GreyO.sl (GreyO.of howna (Nat.le_refl _)))).mono ?_; rintro e w10 ⟨rfl, hbb⟩))
    have hbc := (Below.refl w8.heap.size w8).drew.trans (hba.trans (hbb.mono hba.size))
    have hf := Far.ofB hbc
    have PW := Lib.hid (PW.out.far0 hf)
    have X0 := Lib.hid (X0.out.far0 hf)
    have G := Lib.hid (G.out.far0 hf)
    have Vw10 := Lib.hid (Vw8.out.trans (hbc.mono Vw8.out.size))
    have lw10 : w8.heap.size ≤ w10.heap.size := hbc.size
    clear hba hbb hbc hf howna HX HT1 HE1 Vw8
    have xv := X0.out.val
    go_wp2_with fail
    refine (CM0.out _ _ _ _ X0.out.o).mono ?_
    rintro e w11 ⟨rfl, ho, hf⟩
    obtain ⟨hxl, hxh⟩ : wc.heap.size ≤ _ ∧ _ ≤ w6.heap.size + 1 := ⟨X0.out.hl, X0.out.hh⟩
    have PW := Lib.hid (PW.out.far hf (by omega))
    have G := Lib.hid (G.out.far hf (by omega))
    have Vw11 := Lib.hid (hf.bel Vw10.out (by omega) (Nat.le_refl _))
    have lw11 : w10.heap.size ≤ w11.heap.size := hf.size
    have X0 := Lib.hid (X0.out.marked hf ho GreyO.liv)
    clear ho hf xv hxl hxh Vw10
    clear X0
    have gv := G.out.val
    have pv := PW.out.val
    go_wp2_with fail
    refine (CE.out _ _ _ (GreyO.sl G.out.o) (GreyO.sl PW.out.o)).mono ?_
    rintro e w12 ⟨rfl, hb⟩
    have hf := Far.ofB hb
    have PW := Lib.hid (PW.out.far0 hf)
    have G := Lib.hid (G.out.far0 hf)
    have Vw12 := Lib.hid (Vw11.out.trans (hb.mono Vw11.out.size))
    have lw12 : w11.heap.size ≤ w12.heap.size := by have := hb.size; simpa using this
    clear hb hf gv pv Vw11
    have xv := G.out.val
    go_wp2_with fail
    refine (CM.out _ _ _ _ G.out.o).mono ?_
    rintro e w13 ⟨rfl, ho, hf⟩
    obtain ⟨hxl, hxh⟩ : w6.heap.size + 1 ≤ _ ∧ _ ≤ w7.heap.size + 1 := ⟨G.out.hl, G.out.hh⟩
    have PW := Lib.hid (PW.out.far hf (by omega))
    have Vw13 := Lib.hid (hf.bel Vw12.out (by omega) (Nat.le_refl _))
    have lw13 : w12.heap.size ≤ w13.heap.size := hf.size
    have G := Lib.hid (G.out.marked hf ho GreyO.liv)
    clear ho hf xv hxl hxh Vw12
    have gx := G.out.val
    go_wp2_with fail
    refine (CH.out _ _ (GreyO.sl G.out.o)).mono ?_
    rintro e w14 ⟨rfl, hb⟩
    have hf := Far.ofB hb
    have PW := Lib.hid (PW.out.far0 hf)
    have G := Lib.hid (G.out.far0 hf)
    have Vw14 := Lib.hid (Vw13.out.trans (hb.mono Vw13.out.size))
    have lw14 : w13.heap.size ≤ w14.heap.size := hb.size
    clear hb hf gx Vw13
    have HX : Hid (∀ W, Below w14.heap.size w14 W → Below W0.heap.size W0 W) := fun W hb => Vw14.out.trans (hb.mono Vw14.out.size)
    go_upto_region 24 with fail
    go_cut [12, 13] (fun s8 s9 wx => ∃ (bw : Nat) (ao : Option Addr) (n cap lo hi H : Nat), s8 = .pointer (some ⟨bw, 0, none⟩) ∧ s9 = .bool ok ∧ VarO (GreyO lo hi (.slice ao n cap) P) 26 bw (.slice ao n cap) lo hi w14.heap.size H wx ∧ H ≤ wx.heap.size ∧ Below w14.heap.size w14 wx)
    case first =>
      have cz0 := (HC.out _ (HX.out _ (Below.refl _ _)))
      go_wp2_with fail
      refine (HTA0.out _ (HX.out _ (Below.refl _ _))).mono ?_
      rintro e wa1 ⟨g1, cap1, rfl, hown1, hB1⟩
      clear cz0
      go_wp2_with fail
      refine (CI.out _ _ (GreyO.sl (GreyO.of hown1 (Nat.le_refl _))) (HEN.out _ (HB.out _ (HX.out _ hB1)))).mono ?_
      rintro e wa2 ⟨ao5, n5, cap5, rfl, h5, hb2⟩
      have hB2 : Below w14.heap.size w14 wa2 := hB1.trans (hb2.mono hB1.size)
      go_wp2_with fail
      go_meet
      exact ⟨wa2.heap.size, ao5, n5, cap5, _, wa2.heap.size, wa2.heap.size + 1, rfl, rfl, VarO.new (GreyO.of h5 (Nat.le_refl _)) GreyO.liv (Nat.le_refl _) (far_alloc _ _) (by first | exact hB1.size | (have := hB1.size; simp; omega) | simp) hB2.size, by simp, hB2.alloc hB2.size _⟩
    obtain ⟨b9, ao9, n9, cap9, lo9, hi9, H9, rfl, rfl, hp9, hH9, hbx⟩ := hcut
    have HH := Lib.hid hp9
    have hf := Far.ofB hbx
    have PW := Lib.hid (PW.out.far0 hf)
    have G := Lib.hid (G.out.far0 hf)
    have Vd := Lib.hid (HX.out _ hbx)
    clear hp9 hbx HX hf Vw14
    have gv := HH.out.val
    have pv := PW.out.val
    go_wp2_with fail
    refine (CE.out _ _ _ (GreyO.sl HH.out.o) (GreyO.sl PW.out.o)).mono ?_
    rintro e w15 ⟨rfl, hb⟩
    have hf := Far.ofB hb
    have G := Lib.hid (G.out.far0 hf)
    have Vw15 := Lib.hid (Vd.out.trans (hb.mono Vd.out.size))
    clear hb hf gv pv Vd HH PW
    have gx := G.out.val
    go_wp2_with fail
    refine (CH.out _ _ (GreyO.sl G.out.o)).mono ?_
    rintro e w16 ⟨rfl, hb⟩
    have Vw16 := Lib.hid (Vw15.out.trans (hb.mono Vw15.out.size))
    clear hb gx Vw15
    go_wp2
    go_ret
    exact ⟨rfl, HB.out _ Vw16.out⟩
end Go.Proofs.YtoojldhjgbegnaaDoor
