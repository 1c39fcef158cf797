/- Contracts of single functions, and plain lemmas, on which the exact laws of this seat rest; each holds under the conditions that it states. -/
import Derived.Test.YtnmnlbgialolhaaDoorGA
import Derived.Test.YtnmnlbgialolhaaDoorWd
import Derived.Test.YtnmnlbgialolhaaDoorPb
import Derived.Test.YtnmnlbgialolhaaDoorGB
import Derived.Test.YtnmnlbgialolhaaDoorOGa
import Derived.Test.YtnmnlbgialolhaaDoorOGb
import Derived.Deep.RegionHeld3
import Derived.Deep.DeepCutAuto
namespace Go.Proofs.YtnmnlbgialolhaaDoor
set_option linter.unusedVariables false
open Go.RowKit

set_option maxHeartbeats 400000 in
theorem szStringS_any (v : Value) (ss : List ByteArray) (left : Int) (w : World) (h0 : 0 ≤ left) (h1 : left ≤ 1048576) (hN : ss.length ≤ maxLen) (hz : ∀ s ∈ ss, s.size ≤ maxLen) (hv : Sl w v ss) :
    Calls Tryd.prog 36 #[v, .int .i64 left] w (SomeSz left ss w) := by
  unfold maxLen at hN hz
  rcases hv with ⟨ao, cap, rfl, rfl⟩ | ⟨b, off, cap, rfl, hpos, hb, hc⟩
  · go_enter Tryd.func36, Tryd.ntmps36
    go_wp2
    refine wp_loop_rounds 1 ?_; rw [rounds_succ]
    go_wp2
    go_ret
    exact ⟨_, rfl, by omega, by omega, fun _ => ⟨by simpa using h0, fun s h => by cases h⟩, Below.refl _ _⟩
  · obtain ⟨n, hn⟩ : ∃ n, ss.length = n := ⟨_, rfl⟩
    rw [hn] at hc hpos hN ⊢
    have HN := Lib.hid hn
    have HC := Lib.hid hc
    have HZ := Lib.hid hz
    clear hn hc hz
    by_cases hl : left - n < 0
    · go_enter Tryd.func36, Tryd.ntmps36
      go_wp2
      go_ret
      exact ⟨_, rfl, by omega, by omega, fun h => absurd h (by decide), Below.refl _ _⟩
    · go_enter Tryd.func36, Tryd.ntmps36
      go_wp2
      go_loop [1, 5] (fun l i => ∃ (k : Nat) (q : Int), k ≤ n ∧ i = .int .i64 k ∧ l = .int .i64 q ∧ 0 ≤ q ∧ q ≤ left ∧ Hid (∀ j, j < k → ((ss.getD j ByteArray.empty).size : Int) ≤ left)) (fun _ i => n - (intOf i).toNat)
      case atStart => exact ⟨0, left - n, Nat.zero_le _, rfl, rfl, by omega, by omega, fun j h => by omega⟩
      case round =>
        obtain ⟨k, q, hk, rfl, rfl, hq0, hq1, H⟩ := hrel
        by_cases hlt : k < n
        · have hcell := HC.out k hlt
          obtain ⟨s, hs⟩ : ∃ s, ss.getD k ByteArray.empty = s := ⟨_, rfl⟩
          rw [hs] at hcell
          have hsz : s.size ≤ 2 ^ 63 - 1 := by
            rw [← hs]
            refine HZ.out _ ?_
            have hk' : k < ss.length := by rw [HN.out]; exact hlt
            rw [List.getD_eq_getElem?_getD, List.getElem?_eq_getElem hk']
            exact List.getElem_mem _
          have Hs := Lib.hid hs
          clear hs
          by_cases hq : q - s.size < 0
          · go_wp2
            go_ret
            exact ⟨_, rfl, by omega, by omega, fun h => absurd h (by decide), Below.refl _ _⟩
          · go_wp2
            go_round
            case rel => exact ⟨k + 1, q - s.size, by omega, by go_num, rfl, by omega, by omega, fun j hj => by
              by_cases e : j = k
              · subst e; rw [Hs.out]; omega
              · exact H.out j (by omega)⟩
            case measure => simp [intOf]; omega
        · obtain rfl : k = n := by omega
          go_wp2
          go_ret
          exact ⟨_, rfl, by omega, by omega, fun _ => ⟨by rw [HN.out]; omega, fun s hs => by
            obtain ⟨j, hj, rfl⟩ := List.getElem_of_mem hs
            have := H.out j (by rw [HN.out] at hj; exact hj)
            rw [List.getD_eq_getElem?_getD, List.getElem?_eq_getElem hj] at this
            exact this⟩, Below.refl _ _⟩

theorem szPicture_any (v : Value) (ss : List ByteArray) (left : Int) (w : World) (h0 : 0 ≤ left) (h1 : left ≤ 1048576) (hN : ss.length ≤ maxLen) (hz : ∀ s ∈ ss, s.size ≤ maxLen) (hv : Sl w v ss) :
    Calls Tryd.prog 10 #[.agg #[v], .int .i64 left] w (SomeSz left ss w) := by
  go_enter Tryd.func10, Tryd.ntmps10
  go_wp2_with fail
  refine (szStringS_any v ss left _ h0 h1 hN hz (hv.below (Joins.below_alloc1 w _))).mono ?_
  rintro e w' ⟨r, rfl, h2, h3, h4, hb⟩
  by_cases hr : r < 0
  · go_wp2_with fail
    go_ret
    exact ⟨_, rfl, by omega, by omega, fun h => absurd h (by decide), (Joins.below_alloc1 w _).trans (hb.mono (by simp))⟩
  · go_wp2_with fail
    go_ret
    exact ⟨_, rfl, by omega, by omega, h4, (Joins.below_alloc1 w _).trans (hb.mono (by simp))⟩
end Go.Proofs.YtnmnlbgialolhaaDoor

/- Contracts of single functions, and plain lemmas, on which the exact laws of this seat rest; each holds under the conditions that it states. -/
namespace Go.Proofs.YtnmnlbgialolhaaDoor
set_option linter.unusedVariables false
set_option linter.unusedSimpArgs false
open Go.RowKit

set_option maxHeartbeats 12000000 in
set_option maxRecDepth 100000 in
theorem law_OrderedGrey (u0 : Value) (gs0 : List (List Int)) (w : World) (hN0 : gs0.length ≤ maxLen) (hr0 : ∀ i, i < gs0.length → (rowF gs0 i).length ≤ maxLen) (hu0 : SlG w u0 gs0) (he0 : NoRes w) (he1 : PlcP w) :
    Calls Tryd.prog 7 #[.agg #[u0]] w fun e w' => e = .returned (.bool true) ∧ Below w.heap.size w w' := by
  have HSL0 : Hid (∀ W, Below w.heap.size w W → SlG W u0 gs0) := fun W hb => hu0.below hb
  have HEN : Hid (∀ W, Below w.heap.size w W → NoRes W ∧ PlcP W) := fun W hb => ⟨he0.below hb, he1.below hb⟩
  obtain ⟨W0, hW0⟩ : ∃ W0, (w.alloc (.cells #[u0] 40)) = W0 := ⟨_, rfl⟩
  have b0 : Below w.heap.size w W0 := by rw [← hW0]; exact ((Below.refl w.heap.size w).alloc (by first | (simp; done) | (simp; omega)) _)
  have hp0 : W0.heap[w.heap.size + 0]? = some (.cells #[u0] 40 (0, 0)) := by
    rw [← hW0]
    have := heap_alloc_last w (.cells #[u0] 40)
    simpa using this
  have HC : Hid (∀ W, Below W0.heap.size W0 W → W.cell? ⟨w.heap.size, 0, none⟩ = some u0) := fun W hb => cell_kept hb (by have := Joins.cell_of_block hp0 0; simpa using this)
  have HB : Hid (∀ W, Below W0.heap.size W0 W → Below w.heap.size w W) := fun W hb => b0.trans (hb.mono b0.size)
  have HZ0 : Hid (∀ (left : Int) W, 0 ≤ left → left ≤ 1048576 → Below W0.heap.size W0 W → Calls Tryd.prog 24 #[.agg #[u0], .int .i64 left] W (SomeSzG left gs0 W)) := fun left W h0 h1 hb => szGrey_any u0 gs0 left W h0 h1 hN0 hr0 (HSL0.out _ (HB.out _ hb))
  have HW := Lib.hid hW0
  have l0 := b0.size
  have c0_0 := (HC.out W0 (Below.refl _ _))
  clear b0 hW0 hp0 hu0 he0 he1
  go_enter Tryd.func7, Tryd.ntmps7
  go_wp2_with fail
  rw [HW.out]
  refine (HZ0.out 1048576 _ (by omega) (by omega) (Below.refl _ _)).mono ?_
  rintro e wz0 ⟨r0, rfl, hr0, hs0, hq, hb⟩
  have Vwz0 := Lib.hid (hb)
  clear hb c0_0
  by_cases hr : r0 < 0
  · clear hq
    go_wp2_with fail
    go_ret
    exact ⟨rfl, HB.out _ Vwz0.out⟩
  · have hsm0 : gs0.length + totG gs0 ≤ 1048576 := by have := hq (by omega); omega
    clear hq
    have HTA0 : Hid (∀ W, Below W0.heap.size W0 W → Calls Tryd.prog 26 #[.agg #[u0]] W (TookG W gs0)) := fun W hb => toGrey_any u0 gs0 W (by omega) (rows_small hsm0) (HSL0.out _ (HB.out _ hb))
    have CE0 : Hid (∀ x y W, SlG W x gs0 → SlG W y gs0 → Calls Tryd.prog 21 #[.agg #[x], .agg #[y]] W (SaysB true W)) := fun x y W hx hy => eqGrey_same x y gs0 W (by omega) (rows_max hsm0) hx hy
    obtain ⟨P, ok, hPl, hS, hI⟩ : ∃ (P : List ByteArray) (ok : Bool), P.length ≤ 16 ∧ (∀ x0 W, SlG W x0 gs0 → Calls Tryd.prog 28 #[.agg #[x0]] W (SaysPic P ok W)) ∧ (∀ x0 W, SlG W x0 gs0 → (NoRes W ∧ PlcP W) → Calls Tryd.prog 29 #[.agg #[x0]] W (SaysPic P ok W)) := ⟨odP gs0, vG 99 gs0, odP_len gs0, fun x0 W a => spec_Ordered x0 gs0 W (by omega) (rows_small hsm0) a, fun x0 W a e => impl_Ordered x0 gs0 W (by omega) (rows_small hsm0) a e.1 e.2⟩
    have CS := Lib.hid hS
    have CI := Lib.hid hI
    have CE : Hid (∀ x y W, Sl W x P → Sl W y P → Calls Tryd.prog 14 #[.agg #[x], .agg #[y]] W (SaysB true W)) := fun x y W hx hy => by have := eqPicture_any x y P P W (by unfold maxLen; omega) (by unfold maxLen; omega) hx hy; rwa [sameL_self] at this
    obtain ⟨m, hmm, hM, hH⟩ : ∃ m : Int, 0 ≤ m ∧ (∀ v lo hi W, PicO lo hi v P W → Calls Tryd.prog 15 #[.agg #[v], .int .i64 1] W (fun e w' => e = .returned (.int .i64 m) ∧ PicO lo hi v (marks 1 P.length) w' ∧ Far lo hi W w')) ∧ (∀ v W, Sl W v (marks 1 P.length) → Calls Tryd.prog 16 #[.agg #[v], .int .i64 1] W (fun e w' => e = .returned (.int .i64 m) ∧ Below W.heap.size W w')) :=
      ⟨((1 + P.length : Nat) : Int), by omega, fun v lo hi W h => mark_pic v P lo hi 1 W (by omega) (by omega) h, fun v W h => heldPicture_any v 1 P.length W (by omega) (by omega) h⟩
    have CM := Lib.hid hM
    have CH := Lib.hid hH
    obtain ⟨m0, q0, hm0, hqm0, hqb0, hM0⟩ : ∃ (m0 : Int) (q0 : Nat), 0 ≤ m0 ∧ m0 = ((q0 : Nat) : Int) ∧ (1 ≤ q0 ∧ q0 ≤ 2100001) ∧ (∀ v lo hi W, GreyO lo hi v gs0 W → Calls Tryd.prog 22 #[.agg #[v], .int .i64 1] W (fun e w' => e = .returned (.int .i64 m0) ∧ GreyO lo hi v (marksG 1 gs0) w' ∧ Far lo hi W w')) :=
      ⟨((1 + totG gs0 : Nat) : Int), 1 + totG gs0, by omega, rfl, by omega, fun v lo hi W h => by exact mark_grey v gs0 lo hi 1 W (by omega) (rows_small hsm0) (by omega) h⟩
    have CM0 := Lib.hid hM0
    clear hS hI hM hH hPl hM0 hqm0 hqb0
    have HX : Hid (∀ W, Below wz0.heap.size wz0 W → Below W0.heap.size W0 W) := fun W hb => Vwz0.out.trans (hb.mono Vwz0.out.size)
    go_upto_region 5 with fail
    go_cut [4, 5] (fun s8 s9 wx => ∃ (bw : Nat) (ao : Option Addr) (n cap lo hi H : Nat), s8 = .pointer (some ⟨bw, 0, none⟩) ∧ s9 = .bool ok ∧ VarO (PicO lo hi (.slice ao n cap) P) 26 bw (.slice ao n cap) lo hi wz0.heap.size H wx ∧ H ≤ wx.heap.size ∧ Below wz0.heap.size wz0 wx)
    case first =>
      have cz0 := (HC.out _ (HX.out _ (Below.refl _ _)))
      go_wp2_with fail
      refine (HTA0.out _ (HX.out _ (Below.refl _ _))).mono ?_
      rintro e wa1 ⟨g1, cap1, rfl, hown1, hB1⟩
      clear cz0
      go_wp2_with fail
      refine (CS.out _ _ (GreyO.sl (GreyO.of hown1 (Nat.le_refl _)))).mono ?_
      rintro e wa2 ⟨ao5, n5, cap5, rfl, h5, hb2⟩
      have hB2 : Below wz0.heap.size wz0 wa2 := hB1.trans (hb2.mono hB1.size)
      go_wp2_with fail
      go_meet
      exact ⟨wa2.heap.size, ao5, n5, cap5, _, wa2.heap.size, wa2.heap.size + 1, rfl, rfl, VarO.new (PicO.of h5 (Nat.le_refl _)) Row.liv (Nat.le_refl _) (far_alloc _ _) (by first | exact hB1.size | (have := hB1.size; simp; omega) | simp) hB2.size, by simp, hB2.alloc hB2.size _⟩
    obtain ⟨b5, ao5, n5, cap5, lo5, hi5, H5, rfl, rfl, hp5, hH5, hbx⟩ := hcut
    have PW := Lib.hid hp5
    have Vc := Lib.hid (HX.out _ hbx)
    have lc := hbx.size
    have lz := Vwz0.out.size
    clear hp5 hbx HX
    have c0_0 := (HC.out _ Vc.out)
    go_wp2_with fail
    refine (HTA0.out _ Vc.out).mono ?_
    rintro e w6 ⟨gw6, capw6, rfl, hown, hb⟩
    have lw6 : wc.heap.size ≤ w6.heap.size := by have := hb.size; simpa using this
    have X0 := Lib.hid (VarO.new (t := 35) (v := .slice (some ⟨gw6, 0, none⟩) gs0.length capw6) (L := wc.heap.size) (GreyO.of hown (Nat.le_refl _)) GreyO.liv (Nat.le_refl _) (far_alloc _ _) (by simp) lw6)
    have hba := hb.trans ((Joins.below_alloc1 w6 (.cells #[.slice (some ⟨gw6, 0, none⟩) gs0.length capw6] 35)).mono hb.size)
    have hf := Far.ofB hba
    have PW := Lib.hid (PW.out.far0 hf)
    have Vw6 := Lib.hid (Vc.out.trans (hba.mono Vc.out.size))
    clear hb hown hba hf c0_0 Vc
    have xv0 := X0.out.val
    go_wp2_with fail
    refine (CI.out _ _ (GreyO.sl X0.out.o) (HEN.out _ (HB.out _ Vw6.out))).mono ?_
    rintro e w7 ⟨ao8, n8, cap8, rfl, h8, hb⟩
    have lw7 : w6.heap.size + 1 ≤ w7.heap.size := by have := hb.size; simpa using this
    have G := Lib.hid (VarO.new (t := 26) (v := .slice ao8 n8 cap8) (L := w6.heap.size + 1) (PicO.of h8 (Nat.le_refl _)) Row.liv (Nat.le_refl _) (far_alloc _ _) (by simp) lw7)
    have hba := hb.trans ((Joins.below_alloc1 w7 (.cells #[.slice ao8 n8 cap8] 26)).mono hb.size)
    have hf := Far.ofB hba
    have PW := Lib.hid (PW.out.far0 hf)
    have X0 := Lib.hid (X0.out.far0 hf)
    have Vw7 := Lib.hid (Vw6.out.trans (hba.mono Vw6.out.size))
    clear hb h8 hba hf xv0 Vw6
    have gv := G.out.val
    have pv := PW.out.val
    go_wp2_with fail
    refine (CE.out _ _ _ (PicO.sl G.out.o) (PicO.sl PW.out.o)).mono ?_
    rintro e w8 ⟨rfl, hb⟩
    have hf := Far.ofB hb
    have PW := Lib.hid (PW.out.far0 hf)
    have X0 := Lib.hid (X0.out.far0 hf)
    have G := Lib.hid (G.out.far0 hf)
    have Vw8 := Lib.hid (Vw7.out.trans (hb.mono Vw7.out.size))
    have lw8 : w7.heap.size + 1 ≤ w8.heap.size := by have := hb.size; simpa using this
    clear hb hf gv pv Vw7
    have HX : Hid (∀ W, Below w8.heap.size w8 W → W.cell? ⟨w.heap.size, 0, none⟩ = some u0 ∧ W.cell? ⟨w6.heap.size, 0, none⟩ = some (.slice (some ⟨gw6, 0, none⟩) gs0.length capw6)) := fun W hb => ⟨(HC.out _ (Vw8.out.trans (hb.mono Vw8.out.size))), (X0.out.far0 (Far.ofB hb)).val⟩
    have HT1 : Hid (∀ W, Below w8.heap.size w8 W → Calls Tryd.prog 26 #[.agg #[u0]] W (TookG W gs0)) := fun W hb => HTA0.out _ (Vw8.out.trans (hb.mono Vw8.out.size))
    have HE1 : Hid (∀ W x, Below w8.heap.size w8 W → SlG W x gs0 → Calls Tryd.prog 21 #[.agg #[.slice (some ⟨gw6, 0, none⟩) gs0.length capw6], .agg #[x]] W (SaysB true W)) := fun W x hb hx => CE0.out _ x W (GreyO.sl (X0.out.far0 (Far.ofB hb)).o) hx
    go_wp2_with fail
    go_region_held3 (fun w' => w'.cell? ⟨w.heap.size, 0, none⟩ = some u0 ∧ w'.cell? ⟨w6.heap.size, 0, none⟩ = some (.slice (some ⟨gw6, 0, none⟩) gs0.length capw6))
      (first | exact HX.out _ (Below.refl _ _) | exact HX.out _ (Below.refl _ _).drew | exact HX.out _ ((Below.refl _ _).drew.trans hba) | exact HX.out _ (((Below.refl _ _).drew.trans hba).trans (hbb.mono hba.size)))
      (first | (go_at_call 26; refine (HT1.out _ (Below.refl _ _).drew).mono ?_; rintro e w9 ⟨ga, capa, rfl, howna, hba⟩) | (go_at_call 21; refine (HE1.out _ _ ((Below.refl _ _).drew.trans hba) (GreyO.sl (GreyO.of howna (Nat.le_refl _)))).mono ?_; rintro e w10 ⟨rfl, hbb⟩))
    have hbc := (Below.refl w8.heap.size w8).drew.trans (hba.trans (hbb.mono hba.size))
    have hf := Far.ofB hbc
    have PW := Lib.hid (PW.out.far0 hf)
    have X0 := Lib.hid (X0.out.far0 hf)
    have G := Lib.hid (G.out.far0 hf)
    have Vw10 := Lib.hid (Vw8.out.trans (hbc.mono Vw8.out.size))
    have lw10 : w8.heap.size ≤ w10.heap.size := hbc.size
    clear hba hbb hbc hf howna HX HT1 HE1 Vw8
    have xv := X0.out.val
    go_wp2_with fail
    refine (CM0.out _ _ _ _ X0.out.o).mono ?_
    rintro e w11 ⟨rfl, ho, hf⟩
    obtain ⟨hxl, hxh⟩ : wc.heap.size ≤ _ ∧ _ ≤ w6.heap.size + 1 := ⟨X0.out.hl, X0.out.hh⟩
    have PW := Lib.hid (PW.out.far hf (by omega))
    have G := Lib.hid (G.out.far hf (by omega))
    have Vw11 := Lib.hid (hf.bel Vw10.out (by omega) (Nat.le_refl _))
    have lw11 : w10.heap.size ≤ w11.heap.size := hf.size
    have X0 := Lib.hid (X0.out.marked hf ho GreyO.liv)
    clear ho hf xv hxl hxh Vw10
    clear X0
    have gv := G.out.val
    have pv := PW.out.val
    go_wp2_with fail
    refine (CE.out _ _ _ (PicO.sl G.out.o) (PicO.sl PW.out.o)).mono ?_
    rintro e w12 ⟨rfl, hb⟩
    have hf := Far.ofB hb
    have PW := Lib.hid (PW.out.far0 hf)
    have G := Lib.hid (G.out.far0 hf)
    have Vw12 := Lib.hid (Vw11.out.trans (hb.mono Vw11.out.size))
    have lw12 : w11.heap.size ≤ w12.heap.size := by have := hb.size; simpa using this
    clear hb hf gv pv Vw11
    have xv := G.out.val
    go_wp2_with fail
    refine (CM.out _ _ _ _ G.out.o).mono ?_
    rintro e w13 ⟨rfl, ho, hf⟩
    obtain ⟨hxl, hxh⟩ : w6.heap.size + 1 ≤ _ ∧ _ ≤ w7.heap.size + 1 := ⟨G.out.hl, G.out.hh⟩
    have PW := Lib.hid (PW.out.far hf (by omega))
    have Vw13 := Lib.hid (hf.bel Vw12.out (by omega) (Nat.le_refl _))
    have lw13 : w12.heap.size ≤ w13.heap.size := hf.size
    have G := Lib.hid (G.out.marked hf ho Row.liv)
    clear ho hf xv hxl hxh Vw12
    have gx := G.out.val
    go_wp2_with fail
    refine (CH.out _ _ (PicO.sl G.out.o)).mono ?_
    rintro e w14 ⟨rfl, hb⟩
    have hf := Far.ofB hb
    have PW := Lib.hid (PW.out.far0 hf)
    have G := Lib.hid (G.out.far0 hf)
    have Vw14 := Lib.hid (Vw13.out.trans (hb.mono Vw13.out.size))
    have lw14 : w13.heap.size ≤ w14.heap.size := hb.size
    clear hb hf gx Vw13
    have HX : Hid (∀ W, Below w14.heap.size w14 W → Below W0.heap.size W0 W) := fun W hb => Vw14.out.trans (hb.mono Vw14.out.size)
    go_upto_region 24 with fail
    go_cut [12, 13] (fun s8 s9 wx => ∃ (bw : Nat) (ao : Option Addr) (n cap lo hi H : Nat), s8 = .pointer (some ⟨bw, 0, none⟩) ∧ s9 = .bool ok ∧ VarO (PicO lo hi (.slice ao n cap) P) 26 bw (.slice ao n cap) lo hi w14.heap.size H wx ∧ H ≤ wx.heap.size ∧ Below w14.heap.size w14 wx)
    case first =>
      have cz0 := (HC.out _ (HX.out _ (Below.refl _ _)))
      go_wp2_with fail
      refine (HTA0.out _ (HX.out _ (Below.refl _ _))).mono ?_
      rintro e wa1 ⟨g1, cap1, rfl, hown1, hB1⟩
      clear cz0
      go_wp2_with fail
      refine (CI.out _ _ (GreyO.sl (GreyO.of hown1 (Nat.le_refl _))) (HEN.out _ (HB.out _ (HX.out _ hB1)))).mono ?_
      rintro e wa2 ⟨ao5, n5, cap5, rfl, h5, hb2⟩
      have hB2 : Below w14.heap.size w14 wa2 := hB1.trans (hb2.mono hB1.size)
      go_wp2_with fail
      go_meet
      exact ⟨wa2.heap.size, ao5, n5, cap5, _, wa2.heap.size, wa2.heap.size + 1, rfl, rfl, VarO.new (PicO.of h5 (Nat.le_refl _)) Row.liv (Nat.le_refl _) (far_alloc _ _) (by first | exact hB1.size | (have := hB1.size; simp; omega) | simp) hB2.size, by simp, hB2.alloc hB2.size _⟩
    obtain ⟨b9, ao9, n9, cap9, lo9, hi9, H9, rfl, rfl, hp9, hH9, hbx⟩ := hcut
    have HH := Lib.hid hp9
    have hf := Far.ofB hbx
    have PW := Lib.hid (PW.out.far0 hf)
    have G := Lib.hid (G.out.far0 hf)
    have Vd := Lib.hid (HX.out _ hbx)
    clear hp9 hbx HX hf Vw14
    have gv := HH.out.val
    have pv := PW.out.val
    go_wp2_with fail
    refine (CE.out _ _ _ (PicO.sl HH.out.o) (PicO.sl PW.out.o)).mono ?_
    rintro e w15 ⟨rfl, hb⟩
    have hf := Far.ofB hb
    have G := Lib.hid (G.out.far0 hf)
    have Vw15 := Lib.hid (Vd.out.trans (hb.mono Vd.out.size))
    clear hb hf gv pv Vd HH PW
    have gx := G.out.val
    go_wp2_with fail
    refine (CH.out _ _ (PicO.sl G.out.o)).mono ?_
    rintro e w16 ⟨rfl, hb⟩
    have Vw16 := Lib.hid (Vw15.out.trans (hb.mono Vw15.out.size))
    clear hb gx Vw15
    go_wp2
    go_ret
    exact ⟨rfl, HB.out _ Vw16.out⟩
end Go.Proofs.YtnmnlbgialolhaaDoor
