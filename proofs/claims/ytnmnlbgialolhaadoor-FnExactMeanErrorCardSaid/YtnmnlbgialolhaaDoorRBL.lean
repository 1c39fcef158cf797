/- Contracts of single functions, and plain lemmas, on which the exact laws of this seat rest; each holds under the conditions that it states. -/
import Derived.Test.YtnmnlbgialolhaaDoorGB
import Derived.Test.YtnmnlbgialolhaaDoorAL1
import Derived.Test.YtnmnlbgialolhaaDoorHd
import Derived.Test.YtnmnlbgialolhaaDoorPb
import Derived.Test.YtnmnlbgialolhaaDoorRBf
import Derived.Test.YtnmnlbgialolhaaDoorRJ
import Derived.Deep.RegionHeld3
import Derived.Deep.DeepCutAuto
namespace Go.Proofs.YtnmnlbgialolhaaDoor
set_option linter.unusedVariables false
open Go.RowKit

set_option maxHeartbeats 400000 in
theorem szStringS_any (v : Value) (ss : List ByteArray) (left : Int) (w : World) (h0 : 0 ≤ left) (h1 : left ≤ 1048576) (hN : ss.length ≤ maxLen) (hz : ∀ s ∈ ss, s.size ≤ maxLen) (hv : Sl w v ss) :
    Calls Tryd.prog 36 #[v, .int .i64 left] w (SomeSz left ss w) := by
  unfold maxLen at hN hz
  rcases hv with ⟨ao, cap, rfl, rfl⟩ | ⟨b, off, cap, rfl, hpos, hb, hc⟩
  · go_enter Tryd.func36, Tryd.ntmps36
    go_wp2
    refine wp_loop_rounds 1 ?_; rw [rounds_succ]
    go_wp2
    go_ret
    exact ⟨_, rfl, by omega, by omega, fun _ => ⟨by simpa using h0, fun s h => by cases h⟩, Below.refl _ _⟩
  · obtain ⟨n, hn⟩ : ∃ n, ss.length = n := ⟨_, rfl⟩
    rw [hn] at hc hpos hN ⊢
    have HN := Lib.hid hn
    have HC := Lib.hid hc
    have HZ := Lib.hid hz
    clear hn hc hz
    by_cases hl : left - n < 0
    · go_enter Tryd.func36, Tryd.ntmps36
      go_wp2
      go_ret
      exact ⟨_, rfl, by omega, by omega, fun h => absurd h (by decide), Below.refl _ _⟩
    · go_enter Tryd.func36, Tryd.ntmps36
      go_wp2
      go_loop [1, 5] (fun l i => ∃ (k : Nat) (q : Int), k ≤ n ∧ i = .int .i64 k ∧ l = .int .i64 q ∧ 0 ≤ q ∧ q ≤ left ∧ Hid (∀ j, j < k → ((ss.getD j ByteArray.empty).size : Int) ≤ left)) (fun _ i => n - (intOf i).toNat)
      case atStart => exact ⟨0, left - n, Nat.zero_le _, rfl, rfl, by omega, by omega, fun j h => by omega⟩
      case round =>
        obtain ⟨k, q, hk, rfl, rfl, hq0, hq1, H⟩ := hrel
        by_cases hlt : k < n
        · have hcell := HC.out k hlt
          obtain ⟨s, hs⟩ : ∃ s, ss.getD k ByteArray.empty = s := ⟨_, rfl⟩
          rw [hs] at hcell
          have hsz : s.size ≤ 2 ^ 63 - 1 := by
            rw [← hs]
            refine HZ.out _ ?_
            have hk' : k < ss.length := by rw [HN.out]; exact hlt
            rw [List.getD_eq_getElem?_getD, List.getElem?_eq_getElem hk']
            exact List.getElem_mem _
          have Hs := Lib.hid hs
          clear hs
          by_cases hq : q - s.size < 0
          · go_wp2
            go_ret
            exact ⟨_, rfl, by omega, by omega, fun h => absurd h (by decide), Below.refl _ _⟩
          · go_wp2
            go_round
            case rel => exact ⟨k + 1, q - s.size, by omega, by go_num, rfl, by omega, by omega, fun j hj => by
              by_cases e : j = k
              · subst e; rw [Hs.out]; omega
              · exact H.out j (by omega)⟩
            case measure => simp [intOf]; omega
        · obtain rfl : k = n := by omega
          go_wp2
          go_ret
          exact ⟨_, rfl, by omega, by omega, fun _ => ⟨by rw [HN.out]; omega, fun s hs => by
            obtain ⟨j, hj, rfl⟩ := List.getElem_of_mem hs
            have := H.out j (by rw [HN.out] at hj; exact hj)
            rw [List.getD_eq_getElem?_getD, List.getElem?_eq_getElem hj] at this
            exact this⟩, Below.refl _ _⟩

theorem szPicture_any (v : Value) (ss : List ByteArray) (left : Int) (w : World) (h0 : 0 ≤ left) (h1 : left ≤ 1048576) (hN : ss.length ≤ maxLen) (hz : ∀ s ∈ ss, s.size ≤ maxLen) (hv : Sl w v ss) :
    Calls Tryd.prog 10 #[.agg #[v], .int .i64 left] w (SomeSz left ss w) := by
  go_enter Tryd.func10, Tryd.ntmps10
  go_wp2_with fail
  refine (szStringS_any v ss left _ h0 h1 hN hz (hv.below (Joins.below_alloc1 w _))).mono ?_
  rintro e w' ⟨r, rfl, h2, h3, h4, hb⟩
  by_cases hr : r < 0
  · go_wp2_with fail
    go_ret
    exact ⟨_, rfl, by omega, by omega, fun h => absurd h (by decide), (Joins.below_alloc1 w _).trans (hb.mono (by simp))⟩
  · go_wp2_with fail
    go_ret
    exact ⟨_, rfl, by omega, by omega, h4, (Joins.below_alloc1 w _).trans (hb.mono (by simp))⟩
end Go.Proofs.YtnmnlbgialolhaaDoor

/- Contracts of single functions, and plain lemmas, on which the exact laws of this seat rest; each holds under the conditions that it states. -/
namespace Go.Proofs.YtnmnlbgialolhaaDoor
set_option linter.unusedVariables false
set_option linter.unusedSimpArgs false
open Go.RowKit

set_option maxHeartbeats 12000000 in
set_option maxRecDepth 100000 in
theorem law_MeanError (u0 : Value) (gs0 : List (List Int)) (u1 : Value) (ss1 : List ByteArray) (w : World) (hN0 : gs0.length ≤ maxLen) (hr0 : ∀ i, i < gs0.length → (rowF gs0 i).length ≤ maxLen) (hu0 : SlG w u0 gs0) (hN1 : ss1.length ≤ maxLen) (hz1 : ∀ s ∈ ss1, s.size ≤ maxLen) (hu1 : Sl w u1 ss1) (he0 : ErrLen w) (he1 : NoRes w) :
    Calls Tryd.prog 6 #[.agg #[u0], .agg #[u1]] w fun e w' => e = .returned (.bool true) ∧ Below w.heap.size w w' := by
  have HSL0 : Hid (∀ W, Below w.heap.size w W → SlG W u0 gs0) := fun W hb => hu0.below hb
  have HSL1 : Hid (∀ W, Below w.heap.size w W → Sl W u1 ss1) := fun W hb => hu1.below hb
  have HEN : Hid (∀ W, Below w.heap.size w W → ErrLen W ∧ NoRes W) := fun W hb => ⟨he0.below hb, he1.below hb⟩
  obtain ⟨W0, hW0⟩ : ∃ W0, ((w.alloc (.cells #[u0] 40)).alloc (.cells #[u1] 24)) = W0 := ⟨_, rfl⟩
  have b0 : Below w.heap.size w W0 := by rw [← hW0]; exact (((Below.refl w.heap.size w).alloc (by first | (simp; done) | (simp; omega)) _).alloc (by first | (simp; done) | (simp; omega)) _)
  have hp0 : W0.heap[w.heap.size + 0]? = some (.cells #[u0] 40 (0, 0)) := by
    rw [← hW0, Below.heap_alloc _ _ _ (by first | (simp; done) | (simp; omega))]
    have := heap_alloc_last w (.cells #[u0] 40)
    simpa using this
  have hp1 : W0.heap[w.heap.size + 1]? = some (.cells #[u1] 24 (0, 0)) := by
    rw [← hW0]
    have := heap_alloc_last (w.alloc (.cells #[u0] 40)) (.cells #[u1] 24)
    simpa using this
  have HC : Hid (∀ W, Below W0.heap.size W0 W → W.cell? ⟨w.heap.size, 0, none⟩ = some u0 ∧ W.cell? ⟨w.heap.size + 1, 0, none⟩ = some u1) := fun W hb => ⟨cell_kept hb (by have := Joins.cell_of_block hp0 0; simpa using this), cell_kept hb (by have := Joins.cell_of_block hp1 0; simpa using this)⟩
  have HB : Hid (∀ W, Below W0.heap.size W0 W → Below w.heap.size w W) := fun W hb => b0.trans (hb.mono b0.size)
  have HZ0 : Hid (∀ (left : Int) W, 0 ≤ left → left ≤ 1048576 → Below W0.heap.size W0 W → Calls Tryd.prog 24 #[.agg #[u0], .int .i64 left] W (SomeSzG left gs0 W)) := fun left W h0 h1 hb => szGrey_any u0 gs0 left W h0 h1 hN0 hr0 (HSL0.out _ (HB.out _ hb))
  have HZ1 : Hid (∀ (left : Int) W, 0 ≤ left → left ≤ 1048576 → Below W0.heap.size W0 W → Calls Tryd.prog 10 #[.agg #[u1], .int .i64 left] W (SomeSz left ss1 W)) := fun left W h0 h1 hb => szPicture_any u1 ss1 left W h0 h1 hN1 hz1 (HSL1.out _ (HB.out _ hb))
  have HW := Lib.hid hW0
  have l0 := b0.size
  have c0_0 := (HC.out W0 (Below.refl _ _)).1
  clear b0 hW0 hp0 hp1 hu0 hu1 he0 he1
  go_enter Tryd.func6, Tryd.ntmps6
  go_wp2_with fail
  rw [HW.out]
  refine (HZ0.out 1048576 _ (by omega) (by omega) (Below.refl _ _)).mono ?_
  rintro e wz0 ⟨r0, rfl, hr0, hs0, hq, hb⟩
  have Vwz0 := Lib.hid (hb)
  clear hb c0_0
  by_cases hr : r0 < 0
  · clear hq
    go_wp2_with fail
    go_ret
    exact ⟨rfl, HB.out _ Vwz0.out⟩
  · have hsm0 : gs0.length + totG gs0 ≤ 1048576 := by have := hq (by omega); omega
    clear hq
    have c1_0 := (HC.out _ Vwz0.out).2
    go_wp2_with fail
    refine (HZ1.out r0 _ (by omega) (by omega) Vwz0.out).mono ?_
    rintro e wz1 ⟨r1, rfl, hr1, hs1, hq, hb⟩
    have Vwz1 := Lib.hid (Vwz0.out.trans (hb.mono Vwz0.out.size))
    clear hb c1_0
    by_cases hr : r1 < 0
    · clear hq
      go_wp2_with fail
      go_ret
      exact ⟨rfl, HB.out _ Vwz1.out⟩
    · have hsm1 : ss1.length ≤ 1048576 := by have := (hq (by omega)).1; omega
      clear hq
      have HTA0 : Hid (∀ W, Below W0.heap.size W0 W → Calls Tryd.prog 26 #[.agg #[u0]] W (TookG W gs0)) := fun W hb => toGrey_any u0 gs0 W (by omega) (rows_small hsm0) (HSL0.out _ (HB.out _ hb))
      have CE0 : Hid (∀ x y W, SlG W x gs0 → SlG W y gs0 → Calls Tryd.prog 21 #[.agg #[x], .agg #[y]] W (SaysB true W)) := fun x y W hx hy => eqGrey_same x y gs0 W (by omega) (rows_max hsm0) hx hy
      have HTA1 : Hid (∀ W, Below W0.heap.size W0 W → Calls Tryd.prog 12 #[.agg #[u1]] W (TookPic W ss1)) := fun W hb => toPicture_any u1 ss1 W hsm1 (HSL1.out _ (HB.out _ hb))
      have CE1 : Hid (∀ x y W, Sl W x ss1 → Sl W y ss1 → Calls Tryd.prog 14 #[.agg #[x], .agg #[y]] W (SaysB true W)) := fun x y W hx hy => by have := eqPicture_any x y ss1 ss1 W hN1 hN1 hx hy; rwa [sameL_self] at this
      obtain ⟨me, mo, hS, hI⟩ : ∃ (me : Int) (mo : Bool), (∀ x0 x1 W, SlG W x0 gs0 → Sl W x1 ss1 → Calls Tryd.prog 25 #[.agg #[x0], .agg #[x1]] W (fun e w' => e = .returned (.tuple #[.int .i64 me, .bool mo]) ∧ Below W.heap.size W w')) ∧ (∀ x0 x1 W, SlG W x0 gs0 → Sl W x1 ss1 → (ErrLen W ∧ NoRes W) → Calls Tryd.prog 27 #[.agg #[x0], .agg #[x1]] W (fun e w' => e = .returned (.tuple #[.int .i64 me, .bool mo]) ∧ Below W.heap.size W w')) := ⟨meV gs0 ss1, meOk gs0 ss1, fun x0 x1 W a b => spec_MeanError x0 gs0 x1 ss1 W (by omega) (rows_small hsm0) a hN1 hz1 b, fun x0 x1 W a b e => impl_MeanError x0 gs0 x1 ss1 W (by omega) (rows_small hsm0) a hN1 hz1 b e.1 e.2⟩
      have CS := Lib.hid hS
      have CI := Lib.hid hI
      clear hS hI
      have lz := Vwz1.out.size
      go_upto_region 8 with fail
      refine wp_region_inv_at (by kernel_rfl) (fun A0 L A W => ∃ (b0 b1 b2 b3 b4 b5 b6 b7 b8 b9 : Bool) (v23 v24 v25 v26 v27 v22 v28 v29 v6 v7 : Value), L = #[b0, b1, b2, b3, b4, b5, b6, b7, b8, b9] ∧ A = ((((((((((A0.put (some 23) v23).put (some 24) v24).put (some 25) v25).put (some 26) v26).put (some 27) v27).put (some 22) v22).put (some 28) v28).put (some 29) v29).put (some 6) v6).put (some 7) v7) ∧ (Below wz1.heap.size wz1 W) ∧ Hid (b0 = true → v23 = .agg #[u0]) ∧ Hid (b1 = true → b4 = false → ∃ g0 c0, v24 = .agg #[.slice (some ⟨g0, 0, none⟩) gs0.length c0] ∧ SlG W (.slice (some ⟨g0, 0, none⟩) gs0.length c0) gs0) ∧ Hid (b2 = true → v25 = .agg #[u1]) ∧ Hid (b3 = true → b4 = false → ∃ g1 c1, v26 = .agg #[.slice (some ⟨g1, 0, none⟩) ss1.length c1] ∧ Sl W (.slice (some ⟨g1, 0, none⟩) ss1.length c1) ss1) ∧ Hid (b4 = true → v27 = .tuple #[.int .i64 me, .bool mo]) ∧ Hid (b5 = true → v22 = .tuple #[.int .i64 me, .bool mo]) ∧ Hid (b6 = true → v28 = .int .i64 me) ∧ Hid (b7 = true → v29 = .bool mo) ∧ Hid (b8 = true → v6 = .int .i64 me) ∧ Hid (b9 = true → v7 = .bool mo)) ?_ ?_ ?_
      · intro A0
        refine ⟨false, false, false, false, false, false, false, false, false, false, A0.tmps.getD 23 undef, A0.tmps.getD 24 undef, A0.tmps.getD 25 undef, A0.tmps.getD 26 undef, A0.tmps.getD 27 undef, A0.tmps.getD 22 undef, A0.tmps.getD 28 undef, A0.tmps.getD 29 undef, A0.tmps.getD 6 undef, A0.tmps.getD 7 undef, rfl, (by simp only [put_self]), (Below.refl _ _).drew, Lib.hid (fun hf => by cases hf), Lib.hid (fun hf => by cases hf), Lib.hid (fun hf => by cases hf), Lib.hid (fun hf => by cases hf), Lib.hid (fun hf => by cases hf), Lib.hid (fun hf => by cases hf), Lib.hid (fun hf => by cases hf), Lib.hid (fun hf => by cases hf), Lib.hid (fun hf => by cases hf), Lib.hid (fun hf => by cases hf)⟩
      · intro L A W hI i hi o ho K' hK
        have hlt := (ready_left hi).1
        have hun := (ready_left hi).2
        have haf := ready_after hi ho
        clear hi
        obtain ⟨b0, b1, b2, b3, b4, b5, b6, b7, b8, b9, v23, v24, v25, v26, v27, v22, v28, v29, v6, v7, rfl, rfl, hB, h0, h1, h2, h3, h4, h5, h6, h7, h8, h9⟩ := hI
        have hc : i = 0 ∨ i = 1 ∨ i = 2 ∨ i = 3 ∨ i = 4 ∨ i = 5 ∨ i = 6 ∨ i = 7 ∨ i = 8 ∨ i = 9 := by
          simp at hlt
          omega
        have cc0 := (HC.out W (Vwz1.out.trans (hB.mono Vwz1.out.size))).1
        have cc1 := (HC.out W (Vwz1.out.trans (hB.mono Vwz1.out.size))).2
        rcases hc with rfl | rfl | rfl | rfl | rfl | rfl | rfl | rfl | rfl | rfl
        all_goals (obtain rfl := Option.some.inj ho; clear ho; simp [Region.binds] at haf hun; (try simp only [List.getElem_toArray, List.getElem_cons_zero, List.getElem_cons_succ]); simp only [Act.put, List.setIfInBounds_toArray, List.set_cons_zero, List.set_cons_succ])
        · -- operation 0
          replace hK := Lib.hid hK
          subst hun
          go_simp
          exact hK.out _ _ ⟨true, b1, b2, b3, b4, b5, b6, b7, b8, b9, .agg #[u0], v24, v25, v26, v27, v22, v28, v29, v6, v7, rfl, (by simp only [Act.put, List.setIfInBounds_toArray, List.set_cons_zero, List.set_cons_succ]), hB, Lib.hid (fun _ => rfl), h1, h2, h3, h4, h5, h6, h7, h8, h9⟩
        · -- operation 1
          replace hK := Lib.hid hK
          obtain rfl := (h0.out (by simp only [haf])).symm
          subst hun
          go_simp
          refine (HTA0.out W (Vwz1.out.trans (hB.mono Vwz1.out.size))).mono ?_
          rintro e W' ⟨g0, c0, rfl, hown, hb⟩
          have fo0 := GreyO.sl (GreyO.of hown (Nat.le_refl _))
          have hkept := fun kb (hk : kb < W.heap.size) => hb.block kb hk
          exact hK.out _ _ ⟨b0, true, b2, b3, b4, b5, b6, b7, b8, b9, .agg #[u0], .agg #[.slice (some ⟨g0, 0, none⟩) gs0.length c0], v25, v26, v27, v22, v28, v29, v6, v7, rfl, (by simp only [Act.put, List.setIfInBounds_toArray, List.set_cons_zero, List.set_cons_succ]), hB.trans (hb.mono hB.size), Lib.hid (fun _ => rfl), Lib.hid (fun _ _ => ⟨_, _, rfl, fo0⟩), h2, Lib.hid (fun hx hu => by obtain ⟨g1, c1, e1, fx⟩ := h3.out hx hu; exact ⟨g1, c1, e1, (fx).below hb⟩), h4, h5, h6, h7, h8, h9⟩
        · -- operation 2
          replace hK := Lib.hid hK
          subst hun
          go_simp
          exact hK.out _ _ ⟨b0, b1, true, b3, b4, b5, b6, b7, b8, b9, v23, v24, .agg #[u1], v26, v27, v22, v28, v29, v6, v7, rfl, (by simp only [Act.put, List.setIfInBounds_toArray, List.set_cons_zero, List.set_cons_succ]), hB, h0, h1, Lib.hid (fun _ => rfl), h3, h4, h5, h6, h7, h8, h9⟩
        · -- operation 3
          replace hK := Lib.hid hK
          obtain rfl := (h2.out (by simp only [haf])).symm
          subst hun
          go_simp
          refine (HTA1.out W (Vwz1.out.trans (hB.mono Vwz1.out.size))).mono ?_
          rintro e W' ⟨g1, c1, rfl, hown, hb⟩
          have fo1 := PicO.sl (PicO.of hown (Nat.le_refl _))
          have hkept := fun kb (hk : kb < W.heap.size) => hb.block kb hk
          exact hK.out _ _ ⟨b0, b1, b2, true, b4, b5, b6, b7, b8, b9, v23, v24, .agg #[u1], .agg #[.slice (some ⟨g1, 0, none⟩) ss1.length c1], v27, v22, v28, v29, v6, v7, rfl, (by simp only [Act.put, List.setIfInBounds_toArray, List.set_cons_zero, List.set_cons_succ]), hB.trans (hb.mono hB.size), h0, Lib.hid (fun hx hu => by obtain ⟨g0, c0, e1, fx⟩ := h1.out hx hu; exact ⟨g0, c0, e1, (fx).below hb⟩), Lib.hid (fun _ => rfl), Lib.hid (fun _ _ => ⟨_, _, rfl, fo1⟩), h4, h5, h6, h7, h8, h9⟩
        · -- operation 4
          replace hK := Lib.hid hK
          obtain ⟨g0, c0, rfl, fo0⟩ := h1.out (by simp only [haf]) (by first | exact hun | simp only [haf])
          obtain ⟨g1, c1, rfl, fo1⟩ := h3.out (by simp only [haf]) (by first | exact hun | simp only [haf])
          subst hun
          go_simp
          refine (CS.out _ _ W fo0 fo1).mono ?_
          rintro e W' ⟨rfl, hb⟩
          have hkept := fun kb (hk : kb < W.heap.size) => hb.block kb hk
          exact hK.out _ _ ⟨b0, b1, b2, b3, true, b5, b6, b7, b8, b9, v23, .agg #[.slice (some ⟨g0, 0, none⟩) gs0.length c0], v25, .agg #[.slice (some ⟨g1, 0, none⟩) ss1.length c1], .tuple #[.int .i64 me, .bool mo], v22, v28, v29, v6, v7, rfl, (by simp only [Act.put, List.setIfInBounds_toArray, List.set_cons_zero, List.set_cons_succ]), hB.trans (hb.mono hB.size), h0, Lib.hid (fun _ hu => by cases hu), h2, Lib.hid (fun _ hu => by cases hu), Lib.hid (fun _ => rfl), h5, h6, h7, h8, h9⟩
        · -- operation 5
          replace hK := Lib.hid hK
          obtain rfl := (h4.out (by simp only [haf])).symm
          subst hun
          go_simp
          exact hK.out _ _ ⟨b0, b1, b2, b3, b4, true, b6, b7, b8, b9, v23, v24, v25, v26, .tuple #[.int .i64 me, .bool mo], .tuple #[.int .i64 me, .bool mo], v28, v29, v6, v7, rfl, (by simp only [Act.put, List.setIfInBounds_toArray, List.set_cons_zero, List.set_cons_succ]), hB, h0, h1, h2, h3, Lib.hid (fun _ => rfl), Lib.hid (fun _ => rfl), h6, h7, h8, h9⟩
        · -- operation 6
          replace hK := Lib.hid hK
          obtain rfl := (h5.out (by simp only [haf])).symm
          subst hun
          go_simp
          exact hK.out _ _ ⟨b0, b1, b2, b3, b4, b5, true, b7, b8, b9, v23, v24, v25, v26, v27, .tuple #[.int .i64 me, .bool mo], .int .i64 me, v29, v6, v7, rfl, (by simp only [Act.put, List.setIfInBounds_toArray, List.set_cons_zero, List.set_cons_succ]), hB, h0, h1, h2, h3, h4, Lib.hid (fun _ => rfl), Lib.hid (fun _ => rfl), h7, h8, h9⟩
        · -- operation 7
          replace hK := Lib.hid hK
          obtain rfl := (h5.out (by simp only [haf])).symm
          subst hun
          go_simp
          exact hK.out _ _ ⟨b0, b1, b2, b3, b4, b5, b6, true, b8, b9, v23, v24, v25, v26, v27, .tuple #[.int .i64 me, .bool mo], v28, .bool mo, v6, v7, rfl, (by simp only [Act.put, List.setIfInBounds_toArray, List.set_cons_zero, List.set_cons_succ]), hB, h0, h1, h2, h3, h4, Lib.hid (fun _ => rfl), h6, Lib.hid (fun _ => rfl), h8, h9⟩
        · -- operation 8
          replace hK := Lib.hid hK
          obtain rfl := (h6.out (by simp only [haf])).symm
          subst hun
          go_simp
          exact hK.out _ _ ⟨b0, b1, b2, b3, b4, b5, b6, b7, true, b9, v23, v24, v25, v26, v27, v22, .int .i64 me, v29, .int .i64 me, v7, rfl, (by simp only [Act.put, List.setIfInBounds_toArray, List.set_cons_zero, List.set_cons_succ]), hB, h0, h1, h2, h3, h4, h5, Lib.hid (fun _ => rfl), h7, Lib.hid (fun _ => rfl), h9⟩
        · -- operation 9
          replace hK := Lib.hid hK
          obtain rfl := (h7.out (by simp only [haf])).symm
          subst hun
          go_simp
          exact hK.out _ _ ⟨b0, b1, b2, b3, b4, b5, b6, b7, b8, true, v23, v24, v25, v26, v27, v22, v28, .bool mo, v6, .bool mo, rfl, (by simp only [Act.put, List.setIfInBounds_toArray, List.set_cons_zero, List.set_cons_succ]), hB, h0, h1, h2, h3, h4, h5, h6, Lib.hid (fun _ => rfl), h8, Lib.hid (fun _ => rfl)⟩
      intro L A W hI hr
      obtain ⟨b0, b1, b2, b3, b4, b5, b6, b7, b8, b9, v23, v24, v25, v26, v27, v22, v28, v29, v6, v7, rfl, rfl, hB, h0, h1, h2, h3, h4, h5, h6, h7, h8, h9⟩ := hI
      have d0 := ready_done hr 0 _ rfl (by simp [Region.binds])
      simp at d0
      subst d0
      have d1 := ready_done hr 1 _ rfl (by simp [Region.binds])
      simp at d1
      subst d1
      have d2 := ready_done hr 2 _ rfl (by simp [Region.binds])
      simp at d2
      subst d2
      have d3 := ready_done hr 3 _ rfl (by simp [Region.binds])
      simp at d3
      subst d3
      have d4 := ready_done hr 4 _ rfl (by simp [Region.binds])
      simp at d4
      subst d4
      have d5 := ready_done hr 5 _ rfl (by simp [Region.binds])
      simp at d5
      subst d5
      have d6 := ready_done hr 6 _ rfl (by simp [Region.binds])
      simp at d6
      subst d6
      have d7 := ready_done hr 7 _ rfl (by simp [Region.binds])
      simp at d7
      subst d7
      have d8 := ready_done hr 8 _ rfl (by simp [Region.binds])
      simp at d8
      subst d8
      have d9 := ready_done hr 9 _ rfl (by simp [Region.binds])
      simp at d9
      subst d9
      obtain rfl := (h0.out rfl).symm
      obtain rfl := (h2.out rfl).symm
      obtain rfl := (h4.out rfl).symm
      obtain rfl := (h5.out rfl).symm
      obtain rfl := (h6.out rfl).symm
      obtain rfl := (h7.out rfl).symm
      obtain rfl := (h8.out rfl).symm
      obtain rfl := (h9.out rfl).symm
      simp only [Act.put, List.setIfInBounds_toArray, List.set_cons_zero, List.set_cons_succ]
      clear hr h0 h1 h2 h3 h4 h5 h6 h7 h8 h9
      have VW8 := Lib.hid (Vwz1.out.trans (hB.mono Vwz1.out.size))
      have lW8 : wz1.heap.size ≤ W.heap.size := hB.size
      clear hB Vwz1
      have cc0 := (HC.out _ VW8.out).1
      have cc1 := (HC.out _ VW8.out).2
      go_wp2_with fail
      refine (HTA0.out _ VW8.out).mono ?_
      rintro e w6 ⟨gw6, capw6, rfl, hown, hb⟩
      have lw6 : W.heap.size ≤ w6.heap.size := by have := hb.size; simpa using this
      have X0 := Lib.hid (VarO.new (t := 35) (v := .slice (some ⟨gw6, 0, none⟩) gs0.length capw6) (L := W.heap.size) (GreyO.of hown (Nat.le_refl _)) GreyO.liv (Nat.le_refl _) (far_alloc _ _) (by simp) lw6)
      have hba := hb.trans ((Joins.below_alloc1 w6 (.cells #[.slice (some ⟨gw6, 0, none⟩) gs0.length capw6] 35)).mono hb.size)
      have hf := Far.ofB hba
      have Vw6 := Lib.hid (VW8.out.trans (hba.mono VW8.out.size))
      clear hb hown hba hf cc0 cc1 VW8
      have cc0 := (HC.out _ Vw6.out).1
      have cc1 := (HC.out _ Vw6.out).2
      go_wp2_with fail
      refine (HTA1.out _ Vw6.out).mono ?_
      rintro e w7 ⟨gw7, capw7, rfl, hown, hb⟩
      have lw7 : w6.heap.size + 1 ≤ w7.heap.size := by have := hb.size; simpa using this
      have X1 := Lib.hid (VarO.new (t := 26) (v := .slice (some ⟨gw7, 0, none⟩) ss1.length capw7) (L := w6.heap.size + 1) (PicO.of hown (Nat.le_refl _)) Row.liv (Nat.le_refl _) (far_alloc _ _) (by simp) lw7)
      have hba := hb.trans ((Joins.below_alloc1 w7 (.cells #[.slice (some ⟨gw7, 0, none⟩) ss1.length capw7] 26)).mono hb.size)
      have hf := Far.ofB hba
      have X0 := Lib.hid (X0.out.far0 hf)
      have Vw7 := Lib.hid (Vw6.out.trans (hba.mono Vw6.out.size))
      clear hb hown hba hf cc0 cc1 Vw6
      have xv0 := X0.out.val
      have xv1 := X1.out.val
      have cc0 := (HC.out _ Vw7.out).1
      have cc1 := (HC.out _ Vw7.out).2
      go_wp2_with fail
      refine (CI.out _ _ _ (GreyO.sl X0.out.o) (PicO.sl X1.out.o) (HEN.out _ (HB.out _ Vw7.out))).mono ?_
      rintro e w8 ⟨rfl, hb⟩
      have hf := Far.ofB hb
      have X0 := Lib.hid (X0.out.far0 hf)
      have X1 := Lib.hid (X1.out.far0 hf)
      have Vw8 := Lib.hid (Vw7.out.trans (hb.mono Vw7.out.size))
      clear hb hf xv0 xv1 cc0 cc1 Vw7
      have HX : Hid (∀ W, Below w8.heap.size w8 W → W.cell? ⟨w.heap.size, 0, none⟩ = some u0 ∧ W.cell? ⟨w6.heap.size, 0, none⟩ = some (.slice (some ⟨gw6, 0, none⟩) gs0.length capw6)) := fun W hb => ⟨(HC.out _ (Vw8.out.trans (hb.mono Vw8.out.size))).1, (X0.out.far0 (Far.ofB hb)).val⟩
      have HT1 : Hid (∀ W, Below w8.heap.size w8 W → Calls Tryd.prog 26 #[.agg #[u0]] W (TookG W gs0)) := fun W hb => HTA0.out _ (Vw8.out.trans (hb.mono Vw8.out.size))
      have HE1 : Hid (∀ W x, Below w8.heap.size w8 W → SlG W x gs0 → Calls Tryd.prog 21 #[.agg #[.slice (some ⟨gw6, 0, none⟩) gs0.length capw6], .agg #[x]] W (SaysB true W)) := fun W x hb hx => CE0.out _ x W (GreyO.sl (X0.out.far0 (Far.ofB hb)).o) hx
      go_wp2_with fail
      go_region_held3 (fun w' => w'.cell? ⟨w.heap.size, 0, none⟩ = some u0 ∧ w'.cell? ⟨w6.heap.size, 0, none⟩ = some (.slice (some ⟨gw6, 0, none⟩) gs0.length capw6))
        (first | exact HX.out _ (Below.refl _ _) | exact HX.out _ (Below.refl _ _).drew | exact HX.out _ ((Below.refl _ _).drew.trans hba) | exact HX.out _ (((Below.refl _ _).drew.trans hba).trans (hbb.mono hba.size)))
        (first | (go_at_call 26; refine (HT1.out _ (Below.refl _ _).drew).mono ?_; rintro e w9 ⟨ga, capa, rfl, howna, hba⟩) | (go_at_call 21; refine (HE1.out _ _ ((Below.refl _ _).drew.trans hba) (GreyO.sl (GreyO.of howna (Nat.le_refl _)))).mono ?_; rintro e w10 ⟨rfl, hbb⟩))
      have hbc := (Below.refl w8.heap.size w8).drew.trans (hba.trans (hbb.mono hba.size))
      have hf := Far.ofB hbc
      have X0 := Lib.hid (X0.out.far0 hf)
      have X1 := Lib.hid (X1.out.far0 hf)
      have Vw10 := Lib.hid (Vw8.out.trans (hbc.mono Vw8.out.size))
      clear hba hbb hbc hf howna HX HT1 HE1 Vw8
      have HX : Hid (∀ W, Below w10.heap.size w10 W → W.cell? ⟨w.heap.size + 1, 0, none⟩ = some u1 ∧ W.cell? ⟨w7.heap.size, 0, none⟩ = some (.slice (some ⟨gw7, 0, none⟩) ss1.length capw7)) := fun W hb => ⟨(HC.out _ (Vw10.out.trans (hb.mono Vw10.out.size))).2, (X1.out.far0 (Far.ofB hb)).val⟩
      have HT1 : Hid (∀ W, Below w10.heap.size w10 W → Calls Tryd.prog 12 #[.agg #[u1]] W (TookPic W ss1)) := fun W hb => HTA1.out _ (Vw10.out.trans (hb.mono Vw10.out.size))
      have HE1 : Hid (∀ W x, Below w10.heap.size w10 W → Sl W x ss1 → Calls Tryd.prog 14 #[.agg #[.slice (some ⟨gw7, 0, none⟩) ss1.length capw7], .agg #[x]] W (SaysB true W)) := fun W x hb hx => CE1.out _ x W (PicO.sl (X1.out.far0 (Far.ofB hb)).o) hx
      go_wp2_with fail
      go_region_held3 (fun w' => w'.cell? ⟨w.heap.size + 1, 0, none⟩ = some u1 ∧ w'.cell? ⟨w7.heap.size, 0, none⟩ = some (.slice (some ⟨gw7, 0, none⟩) ss1.length capw7))
        (first | exact HX.out _ (Below.refl _ _) | exact HX.out _ (Below.refl _ _).drew | exact HX.out _ ((Below.refl _ _).drew.trans hba) | exact HX.out _ (((Below.refl _ _).drew.trans hba).trans (hbb.mono hba.size)))
        (first | (go_at_call 12; refine (HT1.out _ (Below.refl _ _).drew).mono ?_; rintro e w11 ⟨ga, capa, rfl, howna, hba⟩) | (go_at_call 14; refine (HE1.out _ _ ((Below.refl _ _).drew.trans hba) (PicO.sl (PicO.of howna (Nat.le_refl _)))).mono ?_; rintro e w12 ⟨rfl, hbb⟩))
      have hbc := (Below.refl w10.heap.size w10).drew.trans (hba.trans (hbb.mono hba.size))
      have hf := Far.ofB hbc
      have X0 := Lib.hid (X0.out.far0 hf)
      have X1 := Lib.hid (X1.out.far0 hf)
      have Vw12 := Lib.hid (Vw10.out.trans (hbc.mono Vw10.out.size))
      clear hba hbb hbc hf howna HX HT1 HE1 Vw10
      clear X0 X1
      go_wp2
      go_ret
      exact ⟨rfl, HB.out _ Vw12.out⟩
end Go.Proofs.YtnmnlbgialolhaaDoor
