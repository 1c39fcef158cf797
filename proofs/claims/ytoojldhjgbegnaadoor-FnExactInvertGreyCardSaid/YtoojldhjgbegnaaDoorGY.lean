/- Contracts of single functions, and plain lemmas, on which the exact laws of this seat rest; each holds under the conditions that it states. -/
import Derived.Test.YtoojldhjgbegnaaDoorGW
import Derived.Test.YtoojldhjgbegnaaDoorAL2
import Derived.Test.YtoojldhjgbegnaaDoorGN
namespace Go.Proofs.YtoojldhjgbegnaaDoor
set_option linter.unusedVariables false
set_option linter.unusedSimpArgs false
open Go.RowKit
attribute [local go_sem] Oper.semAt_some

theorem own_cap2 {W : World} {base g n cap s : Nat} {e : TypeId} {xs : List Value} (h : W.ownsRow base e s (.slice (some ⟨g, 0, none⟩) n cap) n xs) : n ≤ cap := own_capA h _ _ _ rfl
theorem flG_num {m : Int} {gs : List (List Int)} (V : VG m gs) (j : Nat) (hj : j < (flG gs gs.length).length) : 0 ≤ (flG gs gs.length).getD j 0 ∧ (flG gs gs.length).getD j 0 ≤ m := by
  have hw := V.w1
  rw [flG_len V gs.length (Nat.le_refl _)] at hj
  have hm : j % (rowF gs 0).length < (rowF gs 0).length := Nat.mod_lt _ hw
  have hd : j / (rowF gs 0).length < gs.length := Nat.div_lt_of_lt_mul (by rw [Nat.mul_comm]; exact hj)
  have h := flG_at V (j / (rowF gs 0).length) (j % (rowF gs 0).length) hm gs.length (Nat.le_refl _) hd
  rw [show j / (rowF gs 0).length * (rowF gs 0).length + j % (rowF gs 0).length = j from by rw [Nat.mul_comm]; exact Nat.div_add_mod j _] at h
  rw [h]
  exact V.num _ hd _ hm
def ivGp (gs : List (List Int)) : List (List Int) := if vG 99 gs then ivGs gs else []

set_option maxHeartbeats 4000000 in
set_option maxRecDepth 100000 in
theorem spec_Invert (u : Value) (gs : List (List Int)) (w : World) (hN : gs.length ≤ 1048576) (hf : ∀ i, i < gs.length → (rowF gs i).length ≤ 1048576) (hu : SlG w u gs) :
    Calls Tryd.prog 8 #[.agg #[u]] w (SaysGrey (ivGp gs) (vG 99 gs) w) := by
  obtain ⟨W0, hW0⟩ : ∃ W0, (w.alloc (.cells #[u] 26)).alloc (.cells #[.slice none 0 0] 26) = W0 := ⟨_, rfl⟩
  have hs0 : W0.heap.size = w.heap.size + 1 + 1 := by rw [← hW0]; simp
  have hb0 : Below w.heap.size w W0 := by rw [← hW0]; exact Joins.below_alloc2 _ _ _
  have p0 : W0.heap[w.heap.size]? = some (.cells #[u] 26 (0, 0)) := by
    rw [← hW0, Below.heap_alloc _ _ _ (by first | (simp; done) | (simp; omega))]; exact heap_alloc_last w _
  have p1 : W0.heap[w.heap.size + 1]? = some (.cells #[.slice none 0 0] 26 (0, 0)) := by
    rw [← hW0]
    exact heap_alloc2_new _ _ _
  have HW := Lib.hid hW0
  have HB0 := Lib.hid hb0
  have KR : Hid (∀ W, Below W0.heap.size W0 W → W.heap[w.heap.size + 1]? = some (.cells #[.slice none 0 0] 26 (0, 0))) := fun W hb => (hb.block _ (by omega)).trans p1
  have HU : Hid (∀ W, Below W0.heap.size W0 W → W.cell? ⟨w.heap.size, 0, none⟩ = some u ∧ SlG W u gs) := fun W hb => ⟨cell_kept hb (cell_of_one p0), (hu.below hb0).below hb⟩
  have CL := Lib.hid (l07Is_any w.heap.size u gs W0 (cell_of_one p0) hN hf (hu.below hb0))
  cases hok : vG 99 gs with
  | false =>
    have e1 : Hid (ivGp gs = []) := by show _ = _; unfold ivGp; rw [hok]; rfl
    rw [hok] at CL
    rw [e1.out]
    clear hok e1 hu hN hf p0 p1 hW0 hb0 hs0 HU
    go_enter Tryd.func8, Tryd.ntmps8
    go_wp2_with fail
    rw [HW.out]
    refine CL.out.mono ?_
    rintro e w1 ⟨rfl, hb1⟩
    have hp1 := KR.out _ hb1
    have hfr : w1.frozen? ⟨w.heap.size + 1, 0, none⟩ = false := free_of_one hp1
    have hc2 : w1.cell? ⟨w.heap.size + 1, 0, none⟩ = some (.slice none 0 0) := cell_of_one hp1
    have B1 : Hid (Below w.heap.size w w1) := HB0.out.trans (hb1.mono HB0.out.size)
    have P1 := Lib.hid hp1
    clear hb1 hp1
    go_wp2_with fail
    refine bodyPost_ret (v := .tuple #[.agg #[.slice none 0 0], .bool false]) (by simp [results, Tryd.results8, go_sem, cell_of_one (one_setCell P1.out)]) rfl ⟨_, _, _, rfl, ⟨fun _ => .slice none 0 0, OwnR.nil _ _ _ _ _⟩, B1.out.setCell (by show w.heap.size ≤ w.heap.size + 1; omega) _⟩
  | true =>
    have V := vg_of hok
    have e1 : Hid (ivGp gs = ivGs gs) := by show _ = _; unfold ivGp; rw [hok]; rfl
    rw [hok] at CL
    rw [e1.out]
    have CLi : Hid (∀ W, Below W0.heap.size W0 W → Calls Tryd.prog 26 #[u] W (fun e w' => ∃ g cap, e = .returned (.slice (some ⟨g, 0, none⟩) (flG gs gs.length).length cap) ∧ OwnN w' W.heap.size (.slice (some ⟨g, 0, none⟩) (flG gs gs.length).length cap) (flG gs gs.length) ∧ Below W.heap.size W w')) := fun W hb => l07List_any u gs W V (HU.out W hb).2
    have CW : Hid (∀ W, Below W0.heap.size W0 W → Calls Tryd.prog 28 #[.pointer (some ⟨w.heap.size, 0, none⟩)] W (fun e w' => e = .returned (.int .i64 (rowF gs 0).length) ∧ W = w')) := fun W hb => l07Width_any w.heap.size u gs W V (HU.out W hb).1 (HU.out W hb).2
    have hlen := flG_len V gs.length (Nat.le_refl _)
    have HNum : Hid (∀ k, k < (flG gs gs.length).length → 0 ≤ (flG gs gs.length).getD k 0 ∧ (flG gs gs.length).getD k 0 ≤ 99) := fun k hk => flG_num V k hk
    have CR : Hid (∀ g cap W, OwnN W W0.heap.size (.slice (some ⟨g, 0, none⟩) (ivL (flG gs gs.length)).length cap) (ivL (flG gs gs.length)) → Calls Tryd.prog 27 #[.int .i64 (rowF gs 0).length, .slice (some ⟨g, 0, none⟩) (ivL (flG gs gs.length)).length cap] W (fun e w' => ∃ ao c us, e = .returned (.slice ao gs.length c) ∧ OwnR w' W.heap.size w'.heap.size (.slice ao gs.length c) us gs.length (rowF (ivGs gs)) ∧ Below W.heap.size W w')) := fun g cap W ho => by
      obtain ⟨cur, oo, hbk, hcur⟩ := ho.blk
      refine (l07Rows_any g cap (rowF gs 0).length gs.length (ivL (flG gs gs.length)) W (by rw [ivL_len]; exact hlen) ⟨V.w1, V.w16⟩ ⟨V.n1, V.n16⟩ (own_cap2 ho) (Array.getElem?_eq_some_iff.1 hbk).1 (fun j hj => by rw [Joins.cell_of_block hbk j]; exact hcur j hj)).mono ?_
      rintro e w' ⟨ao, c, us, h1, h2, h3⟩
      exact ⟨ao, c, us, h1, h2.congr (fun i hi => (ivGs_row V i hi).symm), h3⟩
    have HM0 : Hid (mixV (flG gs gs.length) (flG gs gs.length).length 0 = numsV (flG gs gs.length)) := mixV_zero _
    have HMf : Hid (mixV (flG gs gs.length) (flG gs gs.length).length (flG gs gs.length).length = numsV (ivL (flG gs gs.length))) := mixV_full _
    have hN256 : (flG gs gs.length).length ≤ 256 := by
      rw [hlen]
      exact Nat.mul_le_mul V.n16 V.w16
    have HIv : Hid ((ivL (flG gs gs.length)).length = (flG gs gs.length).length) := ivL_len _
    have hIvl : (ivGs gs).length = gs.length := ivGs_len gs
    obtain ⟨L, hL⟩ : ∃ L, flG gs gs.length = L := ⟨_, rfl⟩
    rw [hL] at CLi HNum CR HM0 HMf hN256 HIv
    rw [HIv.out] at CR
    have HAt : Hid (∀ k, k < L.length → (mixV L L.length k)[k]? = some (.int .i64 (L.getD k 0))) := fun k h => mixV_at L _ k h
    have HSet : Hid (∀ k, k < L.length → (mixV L L.length k).set k (.int .i64 (99 - L.getD k 0)) = mixV L L.length (k + 1)) := fun k h => mixV_set L _ k h
    have HOwn : Hid (∀ (W : World) (v : Value), W.ownsRow W0.heap.size 2 1 v L.length (numsV (ivL L)) → OwnN W W0.heap.size v (ivL L)) := fun W v h => by
      show OwnN _ _ _ _
      unfold OwnN
      rw [HIv.out]
      exact h
    have HIvl := Lib.hid hIvl
    obtain ⟨N, hNN⟩ : ∃ N, L.length = N := ⟨_, rfl⟩
    have HNq := Lib.hid hNN
    rw [hNN] at CLi HNum CR HM0 HMf hN256 HAt HSet HOwn
    obtain ⟨G, hG⟩ : ∃ G, ivGs gs = G := ⟨_, rfl⟩
    rw [hG] at CR HIvl ⊢
    have hs0' : w.heap.size ≤ W0.heap.size := by omega
    have c0 := (HU.out W0 (Below.refl _ _)).1
    clear hok e1 hu hN hf p0 p1 hW0 hb0 hs0 V hlen hL hNN hG hIvl HIv
    go_enter Tryd.func8, Tryd.ntmps8
    go_wp2_with fail
    rw [HW.out]
    refine CL.out.mono ?_
    rintro e w1 ⟨rfl, hb1⟩
    have HB1 := Lib.hid hb1
    have c1 := (HU.out w1 hb1).1
    clear hb1 c0
    go_wp2_with fail
    refine (CLi.out _ HB1.out).mono ?_
    rintro e w2 ⟨gl, capl, rfl, hown, hb2⟩
    have hgl : w1.heap.size ≤ gl := (World.ownsRow.lt (h := hown) gl rfl).1
    have B2 := Lib.hid (HB1.out.trans (hb2.mono HB1.out.size))
    have O2 : Hid (w2.ownsRow W0.heap.size 2 1 (.slice (some ⟨gl, 0, none⟩) N capl) N (mixV L N 0)) := by
      show World.ownsRow _ _ _ _ _ _ _
      rw [HM0.out]
      have h := Joins.ownsRow_le hown HB1.out.size
      rw [HNq.out] at h
      exact h
    clear hown hb2 c1
    go_wp2
    go_loopw [14] (fun iv wr => ∃ k : Nat, k ≤ N ∧ iv = .int .i64 k ∧ Hid (wr.ownsRow W0.heap.size 2 1 (.slice (some ⟨gl, 0, none⟩) N capl) N (mixV L N k)) ∧ Hid (Below W0.heap.size W0 wr)) (fun iv _ => N - (intOf iv).toNat)
    case atStart => exact ⟨0, Nat.zero_le _, rfl, O2, B2⟩
    case round =>
      clear O2 B2
      obtain ⟨k, hk, rfl, HO, HB⟩ := hrel
      by_cases hlt : k < N
      · have kN : (k : Int) < (N : Int) := by omega
        have k0 : (0 : Int) ≤ (k : Int) := by omega
        have hcell := (HO.out.cellAt k (by omega)).trans (HAt.out k hlt)
        have hfz := HO.out.frozenAt k
        have hst := (HO.out.stored k (.int .i64 (99 - L.getD k 0))).1
        rw [HSet.out k hlt] at hst
        have hnum := HNum.out k hlt
        have hgb := (HO.out.lt gl rfl).1
        obtain ⟨x, hx⟩ : ∃ x, L.getD k 0 = x := ⟨_, rfl⟩
        rw [hx] at hcell hst hnum
        have HS := Lib.hid hst
        have kw : IntKind.i64.wrap (99 - x) = 99 - x := IntWalk.i64_in _ (by omega)
        have B3 := Lib.hid (HB.out.setCell (p := ⟨gl, k, none⟩) hgb (.int .i64 (99 - x)))
        clear hst hx HO HB
        go_wp2
        go_roundw
        case rel => exact ⟨k + 1, by omega, by go_num, HS, B3⟩
        case measure => simp [intOf]; omega
      · obtain rfl : k = N := by omega
        have HF := Lib.hid HO.out
        rw [HMf.out] at HF
        have HF2 := Lib.hid (HOwn.out _ _ HF.out)
        clear HF HO
        go_wp2_with fail
        refine (CW.out _ HB.out).mono ?_
        rintro e w' ⟨rfl, rfl⟩
        go_wp2_with fail
        refine (CR.out _ _ _ HF2.out).mono ?_
        rintro e w7 ⟨ao7, c7, us7, rfl, hown7, hb7⟩
        have hb8 := HB.out.trans (hb7.mono HB.out.size)
        have hp7 := KR.out _ hb8
        have hfr : w7.frozen? ⟨w.heap.size + 1, 0, none⟩ = false := free_of_one hp7
        have hc2 : w7.cell? ⟨w.heap.size + 1, 0, none⟩ = some (.slice none 0 0) := cell_of_one hp7
        have hs7 : w.heap.size + 1 < wr.heap.size := by
          have := HB.out.size
          have := (Array.getElem?_eq_some_iff.1 (KR.out W0 (Below.refl _ _))).1
          omega
        have O7 : Hid (OwnG (w7.setCell ⟨w.heap.size + 1, 0, none⟩ (.slice ao7 gs.length c7)) w.heap.size (w7.setCell ⟨w.heap.size + 1, 0, none⟩ (.slice ao7 gs.length c7)).heap.size (.slice ao7 gs.length c7) G) := by
          refine ⟨us7, ?_⟩
          rw [HIvl.out]
          refine (hown7.keep (fun j h1 _ => Below.heap_setCell w7 ⟨w.heap.size + 1, 0, none⟩ _ j (by show j ≠ w.heap.size + 1; omega))).mono (by omega) (by simp)
        have P7 := Lib.hid (one_setCell (u := .slice ao7 gs.length c7) hp7)
        have B7 := Lib.hid (HB0.out.trans (hb8.mono HB0.out.size))
        clear hown7 hb7 hb8 hp7
        go_wp2_with fail
        refine bodyPost_ret (v := .tuple #[.agg #[.slice ao7 gs.length c7], .bool true]) (by simp [results, Tryd.results8, go_sem, cell_of_one P7.out]) rfl ⟨_, _, _, rfl, O7.out, B7.out.setCell (by show w.heap.size ≤ w.heap.size + 1; omega) _⟩
end Go.Proofs.YtoojldhjgbegnaaDoor

/- Contracts of single functions, and plain lemmas, on which the exact laws of this seat rest; each holds under the conditions that it states. -/
namespace Go.Proofs.YtoojldhjgbegnaaDoor
set_option linter.unusedVariables false
set_option linter.unusedSimpArgs false
open Go.RowKit Go.Shelf
attribute [local go_sem] Oper.semAt_some

/-! ### the opposite numbers, spot by spot -/
/-- row y of a by b when some spots are done -/
def chR (gs : List (List Int)) (a : Nat) {P : Int × Int → Prop} (pre : List { q : Int × Int // P q }) (y : Nat) : List Int :=
  (List.range a).map fun (x : Nat) => if ((x : Int), (y : Int)) ∈ pre.map (·.1) then 99 - (rowF gs y).getD x 0 else 0
theorem chR_len (gs : List (List Int)) (a : Nat) {P : Int × Int → Prop} (pre : List { q : Int × Int // P q }) (y : Nat) : (chR gs a pre y).length = a := by simp [chR]
theorem chR_nil (gs : List (List Int)) (a : Nat) {P : Int × Int → Prop} (y : Nat) : chR gs a ([] : List { q : Int × Int // P q }) y = zerosN a := by
  apply List.ext_getElem?
  intro i
  unfold chR zerosN
  by_cases h : i < a
  · simp [h]
  · simp [h]
theorem mem_snoc2 {P : Int × Int → Prop} (pre : List { q : Int × Int // P q }) (xe : { q : Int × Int // P q }) (p : Int × Int) (h : p ≠ xe.1) : (p ∈ (pre ++ [xe]).map (·.1)) = (p ∈ pre.map (·.1)) := by
  rw [List.map_append, List.mem_append]
  refine propext ⟨fun h2 => ?_, Or.inl⟩
  rcases h2 with h2 | h2
  · exact h2
  · exact absurd (List.mem_singleton.1 h2) h
theorem chR_other (gs : List (List Int)) (a : Nat) {P : Int × Int → Prop} (pre : List { q : Int × Int // P q }) (xe : { q : Int × Int // P q }) (y y' : Nat) (hy : xe.1.2 = y) (hne : y' ≠ y) : chR gs a (pre ++ [xe]) y' = chR gs a pre y' := by
  unfold chR
  refine List.map_congr_left fun x hx => ?_
  have : ((x : Int), (y' : Int)) ≠ xe.1 := fun e => by
    have e2 := congrArg Prod.snd e
    rw [hy] at e2
    simp at e2
    omega
  simp only [mem_snoc2 pre xe _ this]
theorem chR_set (gs : List (List Int)) (a : Nat) {P : Int × Int → Prop} (pre : List { q : Int × Int // P q }) (xe : { q : Int × Int // P q }) (x y : Nat) (hx : xe.1.1 = x) (hy : xe.1.2 = y) (hxa : x < a) : (numsV (chR gs a pre y)).set x (.int .i64 (99 - (rowF gs y).getD x 0)) = numsV (chR gs a (pre ++ [xe]) y) := by
  apply List.ext_getElem?
  intro i
  rw [List.getElem?_set]
  unfold numsV chR
  simp only [List.getElem?_map, List.length_map, List.length_range]
  have hxe : xe.1 = ((x : Int), (y : Int)) := Prod.ext hx hy
  by_cases e : x = i
  · subst e
    rw [if_pos rfl, if_pos hxa, List.getElem?_range hxa]
    simp [hxe]
  · rw [if_neg e]
    by_cases hi : i < a
    · rw [List.getElem?_range hi]
      have : ((i : Int), (y : Int)) ≠ xe.1 := fun e2 => by
        rw [hxe] at e2
        have e3 := congrArg Prod.fst e2
        simp at e3
        omega
      simp only [Option.map_some]
      simp only [mem_snoc2 pre xe _ this]
    · rw [List.getElem?_eq_none (by simp; omega)]
      rfl
theorem chR_full {m : Int} {gs : List (List Int)} (V : VG m gs) (y : Nat) (hy : y < gs.length) : chR gs (rowF gs 0).length ((gGrid (rowF gs 0).length gs.length V.w1 V.n1).list (gs.length * (rowF gs 0).length)) y = rowF (ivGs gs) y := by
  have e1 : rowF (ivGs gs) y = (List.range (rowF gs 0).length).map fun x => 99 - (rowF gs y).getD x 0 := by
    show (ivGs gs).getD y [] = _
    unfold ivGs
    rw [List.getD_eq_getElem?_getD, List.getElem?_map, List.getElem?_range hy]
    rfl
  rw [e1]
  unfold chR
  refine List.map_congr_left fun x hx => ?_
  have hx2 := List.mem_range.1 hx
  have hlt : y * (rowF gs 0).length + x < gs.length * (rowF gs 0).length := by
    have : (y + 1) * (rowF gs 0).length ≤ gs.length * (rowF gs 0).length := Nat.mul_le_mul hy (Nat.le_refl _)
    rw [Nat.add_mul, Nat.one_mul] at this
    omega
  rw [if_pos]
  refine List.mem_map.2 ⟨(gGrid (rowF gs 0).length gs.length V.w1 V.n1).at (y * (rowF gs 0).length + x), ?_, ?_⟩
  · unfold Grid.list
    exact List.mem_map.2 ⟨_, List.mem_range.2 hlt, rfl⟩
  · have d1 : (y * (rowF gs 0).length + x) % (rowF gs 0).length = x := by rw [Nat.mul_comm, Nat.mul_add_mod, Nat.mod_eq_of_lt hx2]
    have d2 : (y * (rowF gs 0).length + x) / (rowF gs 0).length = y := by
      rw [Nat.mul_comm, Nat.mul_add_div (by omega), Nat.div_eq_of_lt hx2, Nat.add_zero]
    refine Prod.ext ?_ ?_
    · show (((y * (rowF gs 0).length + x) % (rowF gs 0).length : Nat) : Int) - ((0 : Nat) : Int) = x
      rw [d1, Int.natCast_zero, Int.sub_zero]
    · show (((y * (rowF gs 0).length + x) / (rowF gs 0).length % gs.length : Nat) : Int) - ((0 : Nat) : Int) = y
      rw [d2, Nat.mod_eq_of_lt hy, Int.natCast_zero, Int.sub_zero]
theorem ownR_from {β : Type} (lo hi B n : Nat) (v : Value) (us : Nat → Value) (f : β → Nat → List Int) (hhi : hi ≤ B) : OwnFrom B (fun (s : β) W => OwnR W lo hi v us n (f s) ∧ hi ≤ W.heap.size) := fun s W W' row h hg hr =>
  ⟨h.1.keep (fun k h1 h2 => hg.block k (Nat.lt_of_lt_of_le h2 h.2) (fun e => by have := (hr k e.symm).1; omega)), Nat.le_trans h.2 hg.size⟩
/-- the rule -/
theorem ivRule_any (x : Int) (w : World) (h : 0 ≤ x ∧ x ≤ 99) : Calls Tryd.prog 33 #[.int .i64 x] w (fun e w' => e = .returned (.int .i64 (99 - x)) ∧ w = w') := by
  have kw : IntKind.i64.wrap (99 - x) = 99 - x := IntWalk.i64_in _ (by omega)
  go_enter Tryd.func33, Tryd.ntmps33
  go_wp2
  go_ret
  exact ⟨rfl, rfl⟩
end Go.Proofs.YtoojldhjgbegnaaDoor
