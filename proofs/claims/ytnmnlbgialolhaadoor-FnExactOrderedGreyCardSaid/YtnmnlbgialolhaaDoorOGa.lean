/- Contracts of single functions, and plain lemmas, on which the exact laws of this seat rest; each holds under the conditions that it states. -/
import Derived.Test.YtnmnlbgialolhaaDoorOGs
import Derived.Test.YtnmnlbgialolhaaDoorRJ
import Derived.Test.YtnmnlbgialolhaaDoorSo
namespace Go.Proofs.YtnmnlbgialolhaaDoor
set_option linter.unusedVariables false
set_option linter.unusedSimpArgs false
open Go.RowKit
attribute [local go_sem] Oper.semAt_some

set_option maxHeartbeats 1000000 in
set_option maxRecDepth 100000 in
theorem l10Table_any (w : World) : Calls Tryd.prog 71 #[] w (fun e w' => ∃ g, e = .returned (.slice (some ⟨g, 0, none⟩) 16 16) ∧ (∀ i, i < 16 → w'.cell? ⟨g, i, none⟩ = some (.int .i64 (tbI i))) ∧ Below w.heap.size w w') := by
  have hb := Joins.below_alloc1 w (.cells tbCells 2)
  have hn := heap_alloc_last w (.cells tbCells 2)
  have hc : ∀ i, i < 16 → (w.alloc (.cells tbCells 2)).cell? ⟨w.heap.size, i, none⟩ = some (.int .i64 (tbI i)) := fun i hi => by
    rw [Joins.cell_of_block hn i]
    exact tbCells_at i hi
  have HB := Lib.hid hb
  have HCc := Lib.hid hc
  clear hb hn hc
  go_enter Tryd.func71, Tryd.ntmps71
  go_wp2
  go_ret
  exact ⟨_, rfl, HCc.out, HB.out⟩

set_option maxHeartbeats 8000000 in
set_option maxRecDepth 100000 in
theorem spec_Ordered (u : Value) (gs : List (List Int)) (w : World) (hN : gs.length ≤ 1048576) (hf : ∀ i, i < gs.length → (rowF gs i).length ≤ 1048576) (hu : SlG w u gs) :
    Calls Tryd.prog 28 #[.agg #[u]] w (SaysPic (odP gs) (vG 99 gs) w) := by
  obtain ⟨i0, hi, hz0, hz1, hz2⟩ := info_parts Tryd.info4
  obtain ⟨W0, hW0⟩ : ∃ W0, (w.alloc (.cells #[u] 35)).alloc (.cells #[.slice none 0 0] 26) = W0 := ⟨_, rfl⟩
  have hs0 : W0.heap.size = w.heap.size + 1 + 1 := by rw [← hW0]; simp
  have hb0 : Below w.heap.size w W0 := by rw [← hW0]; exact Joins.below_alloc2 _ _ _
  have p0 : W0.heap[w.heap.size]? = some (.cells #[u] 35 (0, 0)) := by
    rw [← hW0, Below.heap_alloc _ _ _ (by first | (simp; done) | (simp; omega))]; exact heap_alloc_last w _
  have p1 : W0.heap[w.heap.size + 1]? = some (.cells #[.slice none 0 0] 26 (0, 0)) := by
    rw [← hW0]
    exact heap_alloc2_new _ _ _
  have HW := Lib.hid hW0
  have HB0 := Lib.hid hb0
  have KR : Hid (∀ W, Below W0.heap.size W0 W → W.heap[w.heap.size + 1]? = some (.cells #[.slice none 0 0] 26 (0, 0))) := fun W hb => (hb.block _ (by omega)).trans p1
  have CL := Lib.hid (l07Is_any w.heap.size u gs W0 (cell_of_one p0) hN hf (hu.below hb0))
  cases hok : vG 99 gs with
  | false =>
    have e1 : Hid (odP gs = []) := odP_no hok
    rw [hok] at CL
    rw [e1.out]
    clear hok e1 hu hN hf p0 p1 hW0 hb0 hs0
    go_enter Tryd.func28, Tryd.ntmps28
    go_wp2_with fail
    rw [HW.out]
    refine CL.out.mono ?_
    rintro e w1 ⟨rfl, hb1⟩
    have hp1 := KR.out _ hb1
    have hfr : w1.frozen? ⟨w.heap.size + 1, 0, none⟩ = false := free_of_one hp1
    have hc2 : w1.cell? ⟨w.heap.size + 1, 0, none⟩ = some (.slice none 0 0) := cell_of_one hp1
    have B1 : Hid (Below w.heap.size w w1) := HB0.out.trans (hb1.mono HB0.out.size)
    have P1 := Lib.hid hp1
    clear hb1 hp1
    go_wp2_with fail
    refine bodyPost_ret (v := .tuple #[.agg #[.slice none 0 0], .bool false]) (by simp [results, Tryd.results28, go_sem, cell_of_one (one_setCell P1.out)]) rfl ⟨_, _, _, rfl, World.ownsRow_nil _ _ _ _, B1.out.setCell (by show w.heap.size ≤ w.heap.size + 1; omega) _⟩
  | true =>
    rw [hok] at CL
    have e1 : Hid (odP gs = mkPic (rowF gs 0).length gs.length (odF gs)) := odP_yes hok
    rw [e1.out]
    have V := vg_of hok
    have CZ := Lib.hid (fun W (hb : Below W0.heap.size W0 W) => l10Size_any w.heap.size u gs W V (cell_kept hb (cell_of_one p0)) ((hu.below hb0).below hb))
    have CTb := Lib.hid (fun W => l10Table_any W)
    obtain ⟨b, off, cap, bb, oo, cc, rfl, hG⟩ := gAt_of V hu
    have hG0 := hG _ (Nat.le_refl _)
    have HR : Hid (∀ W, Below W0.heap.size W0 W → W.cell? ⟨w.heap.size, 0, none⟩ = some (.slice (some ⟨b, off, none⟩) gs.length cap) ∧ (∀ y, y < gs.length → W.cell? ⟨b, off + y, none⟩ = some (.slice (some ⟨bb y, oo y, none⟩) (rowF gs 0).length (cc y))) ∧ ∀ y, y < gs.length → ∀ x, x < (rowF gs 0).length → W.cell? ⟨bb y, oo y + x, none⟩ = some (.int .i64 (gF gs y x))) := fun W hb => ⟨cell_kept hb (cell_of_one p0), fun y hy => cell_kept hb (cell_kept hb0 (hG0.row y hy)), fun y hy x hx => cell_kept hb (cell_kept hb0 (hG0.num y hy x hx))⟩
    have HBd : Hid (∀ y, y < gs.length → ∀ x, x < (rowF gs 0).length → 0 ≤ gF gs y x ∧ gF gs y x ≤ 99) := V.num
    have HOd : Hid (∀ y x, odF gs y x = decide (16 * gF gs y x + 8 < 100 * tbI (y % 4 * 4 + x % 4) + 50)) := fun _ _ => rfl
    have hw1 := V.w1
    have hw16 := V.w16
    have hn1 := V.n1
    have hn16 := V.n16
    have CM := Lib.hid (fun (lb cap : Nat) (W : World) (hB : Bools W lb 0 (listF (odF gs) (rowF gs 0).length ((rowF gs 0).length * gs.length))) => make_list (odF gs) lb cap (rowF gs 0).length gs.length W ⟨hw1, hw16⟩ ⟨hn1, hn16⟩ hB)
    obtain ⟨f, hfe⟩ : ∃ f, odF gs = f := ⟨_, rfl⟩
    obtain ⟨F, hFe⟩ : ∃ f, gF gs = f := ⟨_, rfl⟩
    rw [hfe] at HOd CM ⊢
    rw [hFe] at HOd HBd HR
    obtain ⟨a, ha⟩ : ∃ a, (rowF gs 0).length = a := ⟨_, rfl⟩
    obtain ⟨n, hn⟩ : ∃ n, gs.length = n := ⟨_, rfl⟩
    rw [ha, hn] at HR HBd CM CZ ⊢
    rw [ha] at hw1 hw16
    rw [hn] at hn1 hn16 HW
    obtain ⟨pic, hpic⟩ : ∃ p, mkPic a n f = p := ⟨_, rfl⟩
    rw [hpic] at CM ⊢
    unfold TookPic at CM
    clear hok e1 hu hN hf p0 p1 hW0 hb0 hs0 hG hG0 V hfe hFe ha hn hpic
    go_enter Tryd.func28, Tryd.ntmps28
    go_wp2_with fail
    rw [HW.out]
    refine CL.out.mono ?_
    rintro e w1 ⟨rfl, hb1⟩
    have B1 := Lib.hid hb1
    clear hb1 CL
    go_wp2_with fail
    refine (CZ.out _ B1.out).mono ?_
    rintro e w3 ⟨rfl, hb3⟩
    have B3 := Lib.hid (B1.out.trans (hb3.mono B1.out.size))
    clear hb3 CZ B1
    have hrow0 := World.ownsRow_lit (base := w3.heap.size) (e := 4) (size := 1) w3 #[] 0 (Nat.le_refl _) (by unfold maxLen; omega) rfl
    have HRow0 := Lib.hid hrow0
    have HB01 := Lib.hid (Joins.below_alloc1 w3 (.cells #[] 4))
    clear hrow0
    go_wp2
    go_loopw [6, 7] (fun v yv wr => ∃ (y : Nat) (u : Value), u = v ∧ y ≤ n ∧ yv = .int .i64 y ∧ Hid (wr.ownsRow w3.heap.size 4 1 u (y * a) (boolV (listF f a (y * a)))) ∧ Hid (Below w3.heap.size w3 wr)) (fun _ yv _ => n - (intOf yv).toNat)
    case atStart => exact ⟨0, _, rfl, Nat.zero_le _, rfl, by rw [Nat.zero_mul]; exact Lib.hid (by simpa [boolV, listF] using HRow0.out), HB01⟩
    case round =>
      clear HRow0 HB01
      obtain ⟨y, lv0, rfl, hy, rfl, HO, HB⟩ := hrel
      by_cases hlt : y < n
      · have kyn : (y : Int) < (n : Int) := by omega
        go_wp2
        go_loopw [6, 8] (fun v xv wr => ∃ (x : Nat) (u : Value), u = v ∧ x ≤ a ∧ xv = .int .i64 x ∧ Hid (wr.ownsRow w3.heap.size 4 1 u (y * a + x) (boolV (listF f a (y * a + x)))) ∧ Hid (Below w3.heap.size w3 wr)) (fun _ xv _ => a - (intOf xv).toNat)
        case atStart => exact ⟨0, _, rfl, Nat.zero_le _, rfl, HO, HB⟩
        case round =>
          clear HO HB
          obtain ⟨x, lv, rfl, hx, rfl, HO, HB⟩ := hrel
          by_cases hlt2 : x < a
          · have kxa : (x : Int) < (a : Int) := by omega
            have ky0 : (0 : Int) ≤ (y : Int) := by omega
            have kx0 : (0 : Int) ≤ (x : Int) := by omega
            have hsn := listF_snoc f a y x hlt2
            have hod := HOd.out y x
            have hbd := HBd.out y hlt x hlt2
            have htb := tbI_bd (y % 4 * 4 + x % 4)
            obtain ⟨K, hK⟩ : ∃ K, y % 4 * 4 + x % 4 = K := ⟨_, rfl⟩
            have hK16 : K < 16 := by omega
            have CT : Hid (∀ W, Calls Tryd.prog 71 #[] W (fun e w' => ∃ g, e = .returned (.slice (some ⟨g, 0, none⟩) 16 16) ∧ w'.cell? ⟨g, K, none⟩ = some (.int .i64 (tbI K)) ∧ Below W.heap.size W w')) := fun W => (CTb.out W).mono fun e w' ⟨g, h1, h2, h3⟩ => ⟨g, h1, h2 K hK16, h3⟩
            rw [hK] at hod htb
            obtain ⟨tb, htbe⟩ : ∃ t, tbI K = t := ⟨_, rfl⟩
            rw [htbe] at hod htb CT
            have hcel := fun W hb => (HR.out W hb).2.2 y hlt x hlt2
            obtain ⟨z, hz⟩ : ∃ z, F y x = z := ⟨_, rfl⟩
            rw [hz] at hod hbd hcel
            obtain ⟨qb, hqb⟩ : ∃ q, bb y = q := ⟨_, rfl⟩
            obtain ⟨qo2, hqo⟩ : ∃ q, oo y = q := ⟨_, rfl⟩
            obtain ⟨qc, hqc⟩ : ∃ q, cc y = q := ⟨_, rfl⟩
            have hrow := fun W hb => (HR.out W hb).2.1 y hlt
            rw [hqb, hqo, hqc] at hrow
            rw [hqb, hqo] at hcel
            have HC : Hid (∀ W, Below wr.heap.size wr W → W.cell? ⟨w.heap.size, 0, none⟩ = some (.slice (some ⟨b, off, none⟩) n cap) ∧ W.cell? ⟨b, off + y, none⟩ = some (.slice (some ⟨qb, qo2, none⟩) a qc) ∧ W.cell? ⟨qb, qo2 + x, none⟩ = some (.int .i64 z)) := fun W hb => by
              have hb' := B3.out.trans ((HB.out.trans (hb.mono HB.out.size)).mono B3.out.size)
              exact ⟨(HR.out W hb').1, hrow W hb', hcel W hb'⟩
            have kw1 : IntKind.i64.wrap (16 * z) = 16 * z := IntWalk.i64_in _ (by omega)
            have kw2 : IntKind.i64.wrap (16 * z + 8) = 16 * z + 8 := IntWalk.i64_in _ (by omega)
            have kw3 : IntKind.i64.wrap (100 * tb) = 100 * tb := IntWalk.i64_in _ (by omega)
            have kw4 : IntKind.i64.wrap (100 * tb + 50) = 100 * tb + 50 := IntWalk.i64_in _ (by omega)
            obtain ⟨pm, hp⟩ : ∃ t, y % 4 = t := ⟨_, rfl⟩
            obtain ⟨rm, hr⟩ : ∃ t, x % 4 = t := ⟨_, rfl⟩
            rw [hp, hr] at hK
            have kw5 : (y : Int).tmod 4 = (pm : Int) := by rw [show (y : Int).tmod 4 = ((y % 4 : Nat) : Int) from by first | rfl | exact (Int.ofNat_tmod y 4).symm, hp]
            have kw6 : (x : Int).tmod 4 = (rm : Int) := by rw [show (x : Int).tmod 4 = ((x % 4 : Nat) : Int) from by first | rfl | exact (Int.ofNat_tmod x 4).symm, hr]
            have kw7 : IntKind.i64.wrap ((pm : Int) * 4) = (pm : Int) * 4 := IntWalk.i64_in _ (by omega)
            have kw8 : IntKind.i64.wrap ((pm : Int) * 4 + (rm : Int)) = (K : Int) := by
              rw [← hK]
              exact IntWalk.i64_in _ (by omega)
            have kK : (K : Int) < 16 := by omega
            have kK0 : (0 : Int) ≤ (K : Int) := by omega
            obtain ⟨c, hc⟩ : ∃ c, f y x = c := ⟨_, rfl⟩
            rw [hc] at hod hsn
            have kc : decide (16 * z + 8 < 100 * tb + 50) = c := hod.symm
            have hs1 := HB.out.size
            have hle := HB.out.size
            have hNle : y * a ≤ 16 * 16 := Nat.mul_le_mul (by omega) hw16
            obtain ⟨M, hM⟩ : ∃ M, y * a + x = M := ⟨_, rfl⟩
            have HM := Lib.hid hM
            rw [hM] at HO hsn
            have hM2 : M ≤ 300 := by omega
            obtain ⟨JV, hJV⟩ : ∃ l, boolV (listF f a M) = l := ⟨_, rfl⟩
            have hO1 := HO.out
            rw [hJV] at hO1 hsn
            have HO2 : Hid (∀ W, Below wr.heap.size wr W → W.ownsRow w3.heap.size 4 1 lv M JV) := fun W hb => own_below hO1 hb
            have HOlt : Hid (∀ k, lv.ownBlock = some k → w3.heap.size ≤ k) := fun k hk => (hO1.lt k hk).1
            have HSN := Lib.hid hsn
            clear hsn hod hbd htb hK hK16 htbe hcel hz hqb hqo hqc hrow hp hr hc hs1 hNle hM hJV hO1 HO
            go_upto_region 11 with fail
            refine wp_region_inv_at (by kernel_rfl) (fun A0 L A W => ∃ (b0 b1 b2 b3 b4 b5 b6 b7 b8 b9 b10 b11 b12 b13 b14 b15 b16 b17 b18 b19 b20 b21 b22 b23 b24 b25 : Bool) (v27 v28 v29 v30 v31 v32 v33 v34 v35 v36 v37 v38 v39 v40 v41 v42 v43 v44 v45 v46 v47 v48 v49 v50 v51 v6 : Value), L = #[b0, b1, b2, b3, b4, b5, b6, b7, b8, b9, b10, b11, b12, b13, b14, b15, b16, b17, b18, b19, b20, b21, b22, b23, b24, b25] ∧ A = ((((((((((((((((((((((((((A0.put (some 27) v27).put (some 28) v28).put (some 29) v29).put (some 30) v30).put (some 31) v31).put (some 32) v32).put (some 33) v33).put (some 34) v34).put (some 35) v35).put (some 36) v36).put (some 37) v37).put (some 38) v38).put (some 39) v39).put (some 40) v40).put (some 41) v41).put (some 42) v42).put (some 43) v43).put (some 44) v44).put (some 45) v45).put (some 46) v46).put (some 47) v47).put (some 48) v48).put (some 49) v49).put (some 50) v50).put (some 51) v51).put (some 6) v6) ∧ (∃ Wp, Below wr.heap.size wr Wp ∧ (if b24 = true then W.ownsRow w3.heap.size 4 1 v51 (M + 1) (JV ++ [.bool c]) ∧ Wp.grownBy W lv.ownBlock else W = Wp)) ∧ Hid (b0 = true → v27 = lv) ∧ Hid (b1 = true → v28 = .pointer (some ⟨w.heap.size, 0, none⟩)) ∧ Hid (b2 = true → v29 = .slice (some ⟨b, off, none⟩) n cap) ∧ Hid (b3 = true → v30 = .int .i64 (y : Int)) ∧ Hid (b4 = true → v31 = .pointer (some ⟨b, off + y, none⟩)) ∧ Hid (b5 = true → v32 = .slice (some ⟨qb, qo2, none⟩) a qc) ∧ Hid (b6 = true → v33 = .int .i64 (x : Int)) ∧ Hid (b7 = true → v34 = .pointer (some ⟨qb, qo2 + x, none⟩)) ∧ Hid (b8 = true → v35 = .int .i64 z) ∧ Hid (b9 = true → v36 = .int .i64 (16 * z)) ∧ Hid (b10 = true → v37 = .int .i64 (16 * z + 8)) ∧ Hid (b11 = true → b18 = false → ∃ g, v38 = .slice (some ⟨g, 0, none⟩) 16 16 ∧ W.cell? ⟨g, K, none⟩ = some (.int .i64 tb)) ∧ Hid (b12 = true → v39 = .int .i64 (y : Int)) ∧ Hid (b13 = true → v40 = .int .i64 (pm : Int)) ∧ Hid (b14 = true → v41 = .int .i64 ((pm : Int) * 4)) ∧ Hid (b15 = true → v42 = .int .i64 (x : Int)) ∧ Hid (b16 = true → v43 = .int .i64 (rm : Int)) ∧ Hid (b17 = true → v44 = .int .i64 (K : Int)) ∧ Hid (b18 = true → b19 = false → ∃ g, v45 = .pointer (some ⟨g, K, none⟩) ∧ W.cell? ⟨g, K, none⟩ = some (.int .i64 tb)) ∧ Hid (b19 = true → v46 = .int .i64 tb) ∧ Hid (b20 = true → v47 = .int .i64 (100 * tb)) ∧ Hid (b21 = true → v48 = .int .i64 (100 * tb + 50)) ∧ Hid (b22 = true → v49 = .bool c) ∧ Hid (b23 = true → b24 = false → ∃ mb, v50 = .slice (some ⟨mb, 0, none⟩) 1 1 ∧ W.cell? ⟨mb, 0, none⟩ = some (.bool c)) ∧ Hid (b25 = true → v6 = v51) ∧ Hid ((b0 = false → b24 = false) ∧ (b23 = false → b24 = false)) ∧ Hid (b2 = true → b1 = true) ∧ Hid (b4 = true → b2 = true) ∧ Hid (b4 = true → b3 = true) ∧ Hid (b5 = true → b4 = true) ∧ Hid (b7 = true → b5 = true) ∧ Hid (b7 = true → b6 = true) ∧ Hid (b8 = true → b7 = true) ∧ Hid (b9 = true → b8 = true) ∧ Hid (b10 = true → b9 = true) ∧ Hid (b22 = true → b10 = true) ∧ Hid (b18 = true → b11 = true) ∧ Hid (b13 = true → b12 = true) ∧ Hid (b14 = true → b13 = true) ∧ Hid (b17 = true → b14 = true) ∧ Hid (b16 = true → b15 = true) ∧ Hid (b17 = true → b16 = true) ∧ Hid (b18 = true → b17 = true) ∧ Hid (b19 = true → b18 = true) ∧ Hid (b20 = true → b19 = true) ∧ Hid (b21 = true → b20 = true) ∧ Hid (b22 = true → b21 = true) ∧ Hid (b23 = true → b22 = true) ∧ Hid (b25 = true → b24 = true) ∧ Hid (b25 = false → v6 = A0.tmps.getD 6 undef) ∧ Hid (b0 = false → b25 = false)) ?_ ?_ ?_
            · intro A0
              refine ⟨false, false, false, false, false, false, false, false, false, false, false, false, false, false, false, false, false, false, false, false, false, false, false, false, false, false, A0.tmps.getD 27 undef, A0.tmps.getD 28 undef, A0.tmps.getD 29 undef, A0.tmps.getD 30 undef, A0.tmps.getD 31 undef, A0.tmps.getD 32 undef, A0.tmps.getD 33 undef, A0.tmps.getD 34 undef, A0.tmps.getD 35 undef, A0.tmps.getD 36 undef, A0.tmps.getD 37 undef, A0.tmps.getD 38 undef, A0.tmps.getD 39 undef, A0.tmps.getD 40 undef, A0.tmps.getD 41 undef, A0.tmps.getD 42 undef, A0.tmps.getD 43 undef, A0.tmps.getD 44 undef, A0.tmps.getD 45 undef, A0.tmps.getD 46 undef, A0.tmps.getD 47 undef, A0.tmps.getD 48 undef, A0.tmps.getD 49 undef, A0.tmps.getD 50 undef, A0.tmps.getD 51 undef, A0.tmps.getD 6 undef, rfl, (by simp only [put_self]), ⟨_, (Below.refl _ _).drew, (by simp)⟩, Lib.hid (fun hf => by cases hf), Lib.hid (fun hf => by cases hf), Lib.hid (fun hf => by cases hf), Lib.hid (fun hf => by cases hf), Lib.hid (fun hf => by cases hf), Lib.hid (fun hf => by cases hf), Lib.hid (fun hf => by cases hf), Lib.hid (fun hf => by cases hf), Lib.hid (fun hf => by cases hf), Lib.hid (fun hf => by cases hf), Lib.hid (fun hf => by cases hf), Lib.hid (fun hf => by cases hf), Lib.hid (fun hf => by cases hf), Lib.hid (fun hf => by cases hf), Lib.hid (fun hf => by cases hf), Lib.hid (fun hf => by cases hf), Lib.hid (fun hf => by cases hf), Lib.hid (fun hf => by cases hf), Lib.hid (fun hf => by cases hf), Lib.hid (fun hf => by cases hf), Lib.hid (fun hf => by cases hf), Lib.hid (fun hf => by cases hf), Lib.hid (fun hf => by cases hf), Lib.hid (fun hf => by cases hf), Lib.hid (fun hf => by cases hf), Lib.hid ⟨fun _ => rfl, fun _ => rfl⟩, Lib.hid (fun hf => by cases hf), Lib.hid (fun hf => by cases hf), Lib.hid (fun hf => by cases hf), Lib.hid (fun hf => by cases hf), Lib.hid (fun hf => by cases hf), Lib.hid (fun hf => by cases hf), Lib.hid (fun hf => by cases hf), Lib.hid (fun hf => by cases hf), Lib.hid (fun hf => by cases hf), Lib.hid (fun hf => by cases hf), Lib.hid (fun hf => by cases hf), Lib.hid (fun hf => by cases hf), Lib.hid (fun hf => by cases hf), Lib.hid (fun hf => by cases hf), Lib.hid (fun hf => by cases hf), Lib.hid (fun hf => by cases hf), Lib.hid (fun hf => by cases hf), Lib.hid (fun hf => by cases hf), Lib.hid (fun hf => by cases hf), Lib.hid (fun hf => by cases hf), Lib.hid (fun hf => by cases hf), Lib.hid (fun hf => by cases hf), Lib.hid (fun hf => by cases hf), Lib.hid (fun _ => rfl), Lib.hid (fun _ => rfl)⟩
            · intro L A W hI i hi o ho K' hK
              have hlt := (ready_left hi).1
              have hun := (ready_left hi).2
              have haf := ready_after hi ho
              clear hi
              refine hI.elim fun b0 e0_ => e0_.elim fun b1 e1_ => e1_.elim fun b2 e2_ => e2_.elim fun b3 e3_ => e3_.elim fun b4 e4_ => e4_.elim fun b5 e5_ => e5_.elim fun b6 e6_ => e6_.elim fun b7 e7_ => e7_.elim fun b8 e8_ => e8_.elim fun b9 e9_ => e9_.elim fun b10 e10_ => e10_.elim fun b11 e11_ => e11_.elim fun b12 e12_ => e12_.elim fun b13 e13_ => e13_.elim fun b14 e14_ => e14_.elim fun b15 e15_ => e15_.elim fun b16 e16_ => e16_.elim fun b17 e17_ => e17_.elim fun b18 e18_ => e18_.elim fun b19 e19_ => e19_.elim fun b20 e20_ => e20_.elim fun b21 e21_ => e21_.elim fun b22 e22_ => e22_.elim fun b23 e23_ => e23_.elim fun b24 e24_ => e24_.elim fun b25 e25_ => e25_.elim fun v27 e26_ => e26_.elim fun v28 e27_ => e27_.elim fun v29 e28_ => e28_.elim fun v30 e29_ => e29_.elim fun v31 e30_ => e30_.elim fun v32 e31_ => e31_.elim fun v33 e32_ => e32_.elim fun v34 e33_ => e33_.elim fun v35 e34_ => e34_.elim fun v36 e35_ => e35_.elim fun v37 e36_ => e36_.elim fun v38 e37_ => e37_.elim fun v39 e38_ => e38_.elim fun v40 e39_ => e39_.elim fun v41 e40_ => e40_.elim fun v42 e41_ => e41_.elim fun v43 e42_ => e42_.elim fun v44 e43_ => e43_.elim fun v45 e44_ => e44_.elim fun v46 e45_ => e45_.elim fun v47 e46_ => e46_.elim fun v48 e47_ => e47_.elim fun v49 e48_ => e48_.elim fun v50 e49_ => e49_.elim fun v51 e50_ => e50_.elim fun v6 e51_ => e51_.elim fun hLq e52_ => e52_.elim fun hAq e53_ => e53_.elim fun hB e54_ => e54_.elim fun h0 e55_ => e55_.elim fun h1 e56_ => e56_.elim fun h2 e57_ => e57_.elim fun h3 e58_ => e58_.elim fun h4 e59_ => e59_.elim fun h5 e60_ => e60_.elim fun h6 e61_ => e61_.elim fun h7 e62_ => e62_.elim fun h8 e63_ => e63_.elim fun h9 e64_ => e64_.elim fun h10 e65_ => e65_.elim fun h11 e66_ => e66_.elim fun h12 e67_ => e67_.elim fun h13 e68_ => e68_.elim fun h14 e69_ => e69_.elim fun h15 e70_ => e70_.elim fun h16 e71_ => e71_.elim fun h17 e72_ => e72_.elim fun h18 e73_ => e73_.elim fun h19 e74_ => e74_.elim fun h20 e75_ => e75_.elim fun h21 e76_ => e76_.elim fun h22 e77_ => e77_.elim fun h23 e78_ => e78_.elim fun h25 e79_ => e79_.elim fun p e80_ => e80_.elim fun u2_1 e81_ => e81_.elim fun u4_2 e82_ => e82_.elim fun u4_3 e83_ => e83_.elim fun u5_4 e84_ => e84_.elim fun u7_5 e85_ => e85_.elim fun u7_6 e86_ => e86_.elim fun u8_7 e87_ => e87_.elim fun u9_8 e88_ => e88_.elim fun u10_9 e89_ => e89_.elim fun u22_10 e90_ => e90_.elim fun u18_11 e91_ => e91_.elim fun u13_12 e92_ => e92_.elim fun u14_13 e93_ => e93_.elim fun u17_14 e94_ => e94_.elim fun u16_15 e95_ => e95_.elim fun u17_16 e96_ => e96_.elim fun u18_17 e97_ => e97_.elim fun u19_18 e98_ => e98_.elim fun u20_19 e99_ => e99_.elim fun u21_20 e100_ => e100_.elim fun u22_21 e101_ => e101_.elim fun u23_22 e102_ => e102_.elim fun w25 e103_ => e103_.elim fun r25 x0_25 => ?_
              clear hI e0_ e1_ e2_ e3_ e4_ e5_ e6_ e7_ e8_ e9_ e10_ e11_ e12_ e13_ e14_ e15_ e16_ e17_ e18_ e19_ e20_ e21_ e22_ e23_ e24_ e25_ e26_ e27_ e28_ e29_ e30_ e31_ e32_ e33_ e34_ e35_ e36_ e37_ e38_ e39_ e40_ e41_ e42_ e43_ e44_ e45_ e46_ e47_ e48_ e49_ e50_ e51_ e52_ e53_ e54_ e55_ e56_ e57_ e58_ e59_ e60_ e61_ e62_ e63_ e64_ e65_ e66_ e67_ e68_ e69_ e70_ e71_ e72_ e73_ e74_ e75_ e76_ e77_ e78_ e79_ e80_ e81_ e82_ e83_ e84_ e85_ e86_ e87_ e88_ e89_ e90_ e91_ e92_ e93_ e94_ e95_ e96_ e97_ e98_ e99_ e100_ e101_ e102_ e103_
              subst hLq
              subst hAq
              have hc : i = 0 ∨ i = 1 ∨ i = 2 ∨ i = 3 ∨ i = 4 ∨ i = 5 ∨ i = 6 ∨ i = 7 ∨ i = 8 ∨ i = 9 ∨ i = 10 ∨ i = 11 ∨ i = 12 ∨ i = 13 ∨ i = 14 ∨ i = 15 ∨ i = 16 ∨ i = 17 ∨ i = 18 ∨ i = 19 ∨ i = 20 ∨ i = 21 ∨ i = 22 ∨ i = 23 ∨ i = 24 ∨ i = 25 := by
                simp at hlt
                omega
              rcases hc with rfl | rfl | rfl | rfl | rfl | rfl | rfl | rfl | rfl | rfl | rfl | rfl | rfl | rfl | rfl | rfl | rfl | rfl | rfl | rfl | rfl | rfl | rfl | rfl | rfl | rfl
              all_goals (obtain rfl := Option.some.inj ho; clear ho; simp [Region.binds] at haf hun; (try simp only [List.getElem_toArray, List.getElem_cons_zero, List.getElem_cons_succ]); simp only [Act.put, List.setIfInBounds_toArray, List.set_cons_zero, List.set_cons_succ])
              · -- operation 0
                replace hK := Lib.hid hK
                have hlast : b24 = false := p.out.1 hun
                subst hlast
                obtain ⟨Wp, hB, hWp⟩ := hB
                have hWq : W = Wp := by simpa using hWp
                clear hWp
                subst hWq
                have qq := HC.out W hB
                obtain ⟨q0, q1, q2⟩ := qq
                have qo := HO2.out W hB
                have qs : w3.heap.size ≤ W.heap.size := Nat.le_trans hle hB.size
                have hrd : lv = v6 := (r25.out (x0_25.out hun)).symm
                subst hrd
                subst hun
                go_simp
                exact hK.out _ _ ⟨true, b1, b2, b3, b4, b5, b6, b7, b8, b9, b10, b11, b12, b13, b14, b15, b16, b17, b18, b19, b20, b21, b22, b23, false, b25, lv, v28, v29, v30, v31, v32, v33, v34, v35, v36, v37, v38, v39, v40, v41, v42, v43, v44, v45, v46, v47, v48, v49, v50, v51, lv, rfl, (by simp only [Act.put, List.setIfInBounds_toArray, List.set_cons_zero, List.set_cons_succ]), ⟨_, hB, by simp⟩, Lib.hid (fun _ => rfl), h1, h2, h3, h4, h5, h6, h7, h8, h9, h10, h11, h12, h13, h14, h15, h16, h17, h18, h19, h20, h21, h22, h23, h25, Lib.hid ⟨(fun hf => by cases hf), (fun _ => rfl)⟩, u2_1, u4_2, u4_3, u5_4, u7_5, u7_6, u8_7, u9_8, u10_9, u22_10, u18_11, u13_12, u14_13, u17_14, u16_15, u17_16, u18_17, u19_18, u20_19, u21_20, u22_21, u23_22, w25, r25, Lib.hid (fun hf => by cases hf)⟩
              · -- operation 1
                replace hK := Lib.hid hK
                have hmid0 : b2 = false := by cases hb : b2 with | false => rfl | true => exact absurd (show true = false from (u2_1.out hb).symm.trans hun) (by decide)
                have hmid1 : b4 = false := by cases hb : b4 with | false => rfl | true => exact absurd (show true = false from (u4_2.out hb).symm.trans hmid0) (by decide)
                have hmid2 : b5 = false := by cases hb : b5 with | false => rfl | true => exact absurd (show true = false from (u5_4.out hb).symm.trans hmid1) (by decide)
                have hmid3 : b7 = false := by cases hb : b7 with | false => rfl | true => exact absurd (show true = false from (u7_5.out hb).symm.trans hmid2) (by decide)
                have hmid4 : b8 = false := by cases hb : b8 with | false => rfl | true => exact absurd (show true = false from (u8_7.out hb).symm.trans hmid3) (by decide)
                have hmid5 : b9 = false := by cases hb : b9 with | false => rfl | true => exact absurd (show true = false from (u9_8.out hb).symm.trans hmid4) (by decide)
                have hmid6 : b10 = false := by cases hb : b10 with | false => rfl | true => exact absurd (show true = false from (u10_9.out hb).symm.trans hmid5) (by decide)
                have hmid7 : b22 = false := by cases hb : b22 with | false => rfl | true => exact absurd (show true = false from (u22_10.out hb).symm.trans hmid6) (by decide)
                have hmid8 : b23 = false := by cases hb : b23 with | false => rfl | true => exact absurd (show true = false from (u23_22.out hb).symm.trans hmid7) (by decide)
                have hlast : b24 = false := p.out.2 hmid8
                clear hmid0 hmid1 hmid2 hmid3 hmid4 hmid5 hmid6 hmid7 hmid8
                subst hlast
                obtain ⟨Wp, hB, hWp⟩ := hB
                have hWq : W = Wp := by simpa using hWp
                clear hWp
                subst hWq
                have qq := HC.out W hB
                obtain ⟨q0, q1, q2⟩ := qq
                have qo := HO2.out W hB
                have qs : w3.heap.size ≤ W.heap.size := Nat.le_trans hle hB.size
                subst hun
                go_simp
                exact hK.out _ _ ⟨b0, true, b2, b3, b4, b5, b6, b7, b8, b9, b10, b11, b12, b13, b14, b15, b16, b17, b18, b19, b20, b21, b22, b23, false, b25, v27, .pointer (some ⟨w.heap.size, 0, none⟩), v29, v30, v31, v32, v33, v34, v35, v36, v37, v38, v39, v40, v41, v42, v43, v44, v45, v46, v47, v48, v49, v50, v51, v6, rfl, (by simp only [Act.put, List.setIfInBounds_toArray, List.set_cons_zero, List.set_cons_succ]), ⟨_, hB, by simp⟩, h0, Lib.hid (fun _ => rfl), h2, h3, h4, h5, h6, h7, h8, h9, h10, h11, h12, h13, h14, h15, h16, h17, h18, h19, h20, h21, h22, h23, h25, Lib.hid ⟨(fun _ => rfl), (fun _ => rfl)⟩, Lib.hid (fun _ => rfl), u4_2, u4_3, u5_4, u7_5, u7_6, u8_7, u9_8, u10_9, u22_10, u18_11, u13_12, u14_13, u17_14, u16_15, u17_16, u18_17, u19_18, u20_19, u21_20, u22_21, u23_22, w25, r25, x0_25⟩
              · -- operation 2
                replace hK := Lib.hid hK
                have hmid0 : b4 = false := by cases hb : b4 with | false => rfl | true => exact absurd (show true = false from (u4_2.out hb).symm.trans hun) (by decide)
                have hmid1 : b5 = false := by cases hb : b5 with | false => rfl | true => exact absurd (show true = false from (u5_4.out hb).symm.trans hmid0) (by decide)
                have hmid2 : b7 = false := by cases hb : b7 with | false => rfl | true => exact absurd (show true = false from (u7_5.out hb).symm.trans hmid1) (by decide)
                have hmid3 : b8 = false := by cases hb : b8 with | false => rfl | true => exact absurd (show true = false from (u8_7.out hb).symm.trans hmid2) (by decide)
                have hmid4 : b9 = false := by cases hb : b9 with | false => rfl | true => exact absurd (show true = false from (u9_8.out hb).symm.trans hmid3) (by decide)
                have hmid5 : b10 = false := by cases hb : b10 with | false => rfl | true => exact absurd (show true = false from (u10_9.out hb).symm.trans hmid4) (by decide)
                have hmid6 : b22 = false := by cases hb : b22 with | false => rfl | true => exact absurd (show true = false from (u22_10.out hb).symm.trans hmid5) (by decide)
                have hmid7 : b23 = false := by cases hb : b23 with | false => rfl | true => exact absurd (show true = false from (u23_22.out hb).symm.trans hmid6) (by decide)
                have hlast : b24 = false := p.out.2 hmid7
                clear hmid0 hmid1 hmid2 hmid3 hmid4 hmid5 hmid6 hmid7
                subst hlast
                obtain ⟨Wp, hB, hWp⟩ := hB
                have hWq : W = Wp := by simpa using hWp
                clear hWp
                subst hWq
                have qq := HC.out W hB
                obtain ⟨q0, q1, q2⟩ := qq
                have qo := HO2.out W hB
                have qs : w3.heap.size ≤ W.heap.size := Nat.le_trans hle hB.size
                obtain rfl := (h1.out (by simp only [haf])).symm
                subst hun
                go_simp
                exact hK.out _ _ ⟨b0, b1, true, b3, b4, b5, b6, b7, b8, b9, b10, b11, b12, b13, b14, b15, b16, b17, b18, b19, b20, b21, b22, b23, false, b25, v27, .pointer (some ⟨w.heap.size, 0, none⟩), .slice (some ⟨b, off, none⟩) n cap, v30, v31, v32, v33, v34, v35, v36, v37, v38, v39, v40, v41, v42, v43, v44, v45, v46, v47, v48, v49, v50, v51, v6, rfl, (by simp only [Act.put, List.setIfInBounds_toArray, List.set_cons_zero, List.set_cons_succ]), ⟨_, hB, by simp⟩, h0, Lib.hid (fun _ => rfl), Lib.hid (fun _ => rfl), h3, h4, h5, h6, h7, h8, h9, h10, h11, h12, h13, h14, h15, h16, h17, h18, h19, h20, h21, h22, h23, h25, Lib.hid ⟨(fun _ => rfl), (fun _ => rfl)⟩, Lib.hid (fun _ => (by simp only [haf])), Lib.hid (fun _ => rfl), u4_3, u5_4, u7_5, u7_6, u8_7, u9_8, u10_9, u22_10, u18_11, u13_12, u14_13, u17_14, u16_15, u17_16, u18_17, u19_18, u20_19, u21_20, u22_21, u23_22, w25, r25, x0_25⟩
              · -- operation 3
                replace hK := Lib.hid hK
                have hmid0 : b4 = false := by cases hb : b4 with | false => rfl | true => exact absurd (show true = false from (u4_3.out hb).symm.trans hun) (by decide)
                have hmid1 : b5 = false := by cases hb : b5 with | false => rfl | true => exact absurd (show true = false from (u5_4.out hb).symm.trans hmid0) (by decide)
                have hmid2 : b7 = false := by cases hb : b7 with | false => rfl | true => exact absurd (show true = false from (u7_5.out hb).symm.trans hmid1) (by decide)
                have hmid3 : b8 = false := by cases hb : b8 with | false => rfl | true => exact absurd (show true = false from (u8_7.out hb).symm.trans hmid2) (by decide)
                have hmid4 : b9 = false := by cases hb : b9 with | false => rfl | true => exact absurd (show true = false from (u9_8.out hb).symm.trans hmid3) (by decide)
                have hmid5 : b10 = false := by cases hb : b10 with | false => rfl | true => exact absurd (show true = false from (u10_9.out hb).symm.trans hmid4) (by decide)
                have hmid6 : b22 = false := by cases hb : b22 with | false => rfl | true => exact absurd (show true = false from (u22_10.out hb).symm.trans hmid5) (by decide)
                have hmid7 : b23 = false := by cases hb : b23 with | false => rfl | true => exact absurd (show true = false from (u23_22.out hb).symm.trans hmid6) (by decide)
                have hlast : b24 = false := p.out.2 hmid7
                clear hmid0 hmid1 hmid2 hmid3 hmid4 hmid5 hmid6 hmid7
                subst hlast
                obtain ⟨Wp, hB, hWp⟩ := hB
                have hWq : W = Wp := by simpa using hWp
                clear hWp
                subst hWq
                have qq := HC.out W hB
                obtain ⟨q0, q1, q2⟩ := qq
                have qo := HO2.out W hB
                have qs : w3.heap.size ≤ W.heap.size := Nat.le_trans hle hB.size
                subst hun
                go_simp
                exact hK.out _ _ ⟨b0, b1, b2, true, b4, b5, b6, b7, b8, b9, b10, b11, b12, b13, b14, b15, b16, b17, b18, b19, b20, b21, b22, b23, false, b25, v27, v28, v29, .int .i64 (y : Int), v31, v32, v33, v34, v35, v36, v37, v38, v39, v40, v41, v42, v43, v44, v45, v46, v47, v48, v49, v50, v51, v6, rfl, (by simp only [Act.put, List.setIfInBounds_toArray, List.set_cons_zero, List.set_cons_succ]), ⟨_, hB, by simp⟩, h0, h1, h2, Lib.hid (fun _ => rfl), h4, h5, h6, h7, h8, h9, h10, h11, h12, h13, h14, h15, h16, h17, h18, h19, h20, h21, h22, h23, h25, Lib.hid ⟨(fun _ => rfl), (fun _ => rfl)⟩, u2_1, u4_2, Lib.hid (fun _ => rfl), u5_4, u7_5, u7_6, u8_7, u9_8, u10_9, u22_10, u18_11, u13_12, u14_13, u17_14, u16_15, u17_16, u18_17, u19_18, u20_19, u21_20, u22_21, u23_22, w25, r25, x0_25⟩
              · -- operation 4
                replace hK := Lib.hid hK
                have hmid0 : b5 = false := by cases hb : b5 with | false => rfl | true => exact absurd (show true = false from (u5_4.out hb).symm.trans hun) (by decide)
                have hmid1 : b7 = false := by cases hb : b7 with | false => rfl | true => exact absurd (show true = false from (u7_5.out hb).symm.trans hmid0) (by decide)
                have hmid2 : b8 = false := by cases hb : b8 with | false => rfl | true => exact absurd (show true = false from (u8_7.out hb).symm.trans hmid1) (by decide)
                have hmid3 : b9 = false := by cases hb : b9 with | false => rfl | true => exact absurd (show true = false from (u9_8.out hb).symm.trans hmid2) (by decide)
                have hmid4 : b10 = false := by cases hb : b10 with | false => rfl | true => exact absurd (show true = false from (u10_9.out hb).symm.trans hmid3) (by decide)
                have hmid5 : b22 = false := by cases hb : b22 with | false => rfl | true => exact absurd (show true = false from (u22_10.out hb).symm.trans hmid4) (by decide)
                have hmid6 : b23 = false := by cases hb : b23 with | false => rfl | true => exact absurd (show true = false from (u23_22.out hb).symm.trans hmid5) (by decide)
                have hlast : b24 = false := p.out.2 hmid6
                clear hmid0 hmid1 hmid2 hmid3 hmid4 hmid5 hmid6
                subst hlast
                obtain ⟨Wp, hB, hWp⟩ := hB
                have hWq : W = Wp := by simpa using hWp
                clear hWp
                subst hWq
                have qq := HC.out W hB
                obtain ⟨q0, q1, q2⟩ := qq
                have qo := HO2.out W hB
                have qs : w3.heap.size ≤ W.heap.size := Nat.le_trans hle hB.size
                obtain rfl := (h2.out (by simp only [haf])).symm
                obtain rfl := (h3.out (by simp only [haf])).symm
                subst hun
                go_simp
                exact hK.out _ _ ⟨b0, b1, b2, b3, true, b5, b6, b7, b8, b9, b10, b11, b12, b13, b14, b15, b16, b17, b18, b19, b20, b21, b22, b23, false, b25, v27, v28, .slice (some ⟨b, off, none⟩) n cap, .int .i64 (y : Int), .pointer (some ⟨b, off + y, none⟩), v32, v33, v34, v35, v36, v37, v38, v39, v40, v41, v42, v43, v44, v45, v46, v47, v48, v49, v50, v51, v6, rfl, (by simp only [Act.put, List.setIfInBounds_toArray, List.set_cons_zero, List.set_cons_succ]), ⟨_, hB, by simp⟩, h0, h1, Lib.hid (fun _ => rfl), Lib.hid (fun _ => rfl), Lib.hid (fun _ => rfl), h5, h6, h7, h8, h9, h10, h11, h12, h13, h14, h15, h16, h17, h18, h19, h20, h21, h22, h23, h25, Lib.hid ⟨(fun _ => rfl), (fun _ => rfl)⟩, u2_1, Lib.hid (fun _ => (by simp only [haf])), Lib.hid (fun _ => (by simp only [haf])), Lib.hid (fun _ => rfl), u7_5, u7_6, u8_7, u9_8, u10_9, u22_10, u18_11, u13_12, u14_13, u17_14, u16_15, u17_16, u18_17, u19_18, u20_19, u21_20, u22_21, u23_22, w25, r25, x0_25⟩
              · -- operation 5
                replace hK := Lib.hid hK
                have hmid0 : b7 = false := by cases hb : b7 with | false => rfl | true => exact absurd (show true = false from (u7_5.out hb).symm.trans hun) (by decide)
                have hmid1 : b8 = false := by cases hb : b8 with | false => rfl | true => exact absurd (show true = false from (u8_7.out hb).symm.trans hmid0) (by decide)
                have hmid2 : b9 = false := by cases hb : b9 with | false => rfl | true => exact absurd (show true = false from (u9_8.out hb).symm.trans hmid1) (by decide)
                have hmid3 : b10 = false := by cases hb : b10 with | false => rfl | true => exact absurd (show true = false from (u10_9.out hb).symm.trans hmid2) (by decide)
                have hmid4 : b22 = false := by cases hb : b22 with | false => rfl | true => exact absurd (show true = false from (u22_10.out hb).symm.trans hmid3) (by decide)
                have hmid5 : b23 = false := by cases hb : b23 with | false => rfl | true => exact absurd (show true = false from (u23_22.out hb).symm.trans hmid4) (by decide)
                have hlast : b24 = false := p.out.2 hmid5
                clear hmid0 hmid1 hmid2 hmid3 hmid4 hmid5
                subst hlast
                obtain ⟨Wp, hB, hWp⟩ := hB
                have hWq : W = Wp := by simpa using hWp
                clear hWp
                subst hWq
                have qq := HC.out W hB
                obtain ⟨q0, q1, q2⟩ := qq
                have qo := HO2.out W hB
                have qs : w3.heap.size ≤ W.heap.size := Nat.le_trans hle hB.size
                obtain rfl := (h4.out (by simp only [haf])).symm
                subst hun
                go_simp
                exact hK.out _ _ ⟨b0, b1, b2, b3, b4, true, b6, b7, b8, b9, b10, b11, b12, b13, b14, b15, b16, b17, b18, b19, b20, b21, b22, b23, false, b25, v27, v28, v29, v30, .pointer (some ⟨b, off + y, none⟩), .slice (some ⟨qb, qo2, none⟩) a qc, v33, v34, v35, v36, v37, v38, v39, v40, v41, v42, v43, v44, v45, v46, v47, v48, v49, v50, v51, v6, rfl, (by simp only [Act.put, List.setIfInBounds_toArray, List.set_cons_zero, List.set_cons_succ]), ⟨_, hB, by simp⟩, h0, h1, h2, h3, Lib.hid (fun _ => rfl), Lib.hid (fun _ => rfl), h6, h7, h8, h9, h10, h11, h12, h13, h14, h15, h16, h17, h18, h19, h20, h21, h22, h23, h25, Lib.hid ⟨(fun _ => rfl), (fun _ => rfl)⟩, u2_1, u4_2, u4_3, Lib.hid (fun _ => (by simp only [haf])), Lib.hid (fun _ => rfl), u7_6, u8_7, u9_8, u10_9, u22_10, u18_11, u13_12, u14_13, u17_14, u16_15, u17_16, u18_17, u19_18, u20_19, u21_20, u22_21, u23_22, w25, r25, x0_25⟩
              · -- operation 6
                replace hK := Lib.hid hK
                have hmid0 : b7 = false := by cases hb : b7 with | false => rfl | true => exact absurd (show true = false from (u7_6.out hb).symm.trans hun) (by decide)
                have hmid1 : b8 = false := by cases hb : b8 with | false => rfl | true => exact absurd (show true = false from (u8_7.out hb).symm.trans hmid0) (by decide)
                have hmid2 : b9 = false := by cases hb : b9 with | false => rfl | true => exact absurd (show true = false from (u9_8.out hb).symm.trans hmid1) (by decide)
                have hmid3 : b10 = false := by cases hb : b10 with | false => rfl | true => exact absurd (show true = false from (u10_9.out hb).symm.trans hmid2) (by decide)
                have hmid4 : b22 = false := by cases hb : b22 with | false => rfl | true => exact absurd (show true = false from (u22_10.out hb).symm.trans hmid3) (by decide)
                have hmid5 : b23 = false := by cases hb : b23 with | false => rfl | true => exact absurd (show true = false from (u23_22.out hb).symm.trans hmid4) (by decide)
                have hlast : b24 = false := p.out.2 hmid5
                clear hmid0 hmid1 hmid2 hmid3 hmid4 hmid5
                subst hlast
                obtain ⟨Wp, hB, hWp⟩ := hB
                have hWq : W = Wp := by simpa using hWp
                clear hWp
                subst hWq
                have qq := HC.out W hB
                obtain ⟨q0, q1, q2⟩ := qq
                have qo := HO2.out W hB
                have qs : w3.heap.size ≤ W.heap.size := Nat.le_trans hle hB.size
                subst hun
                go_simp
                exact hK.out _ _ ⟨b0, b1, b2, b3, b4, b5, true, b7, b8, b9, b10, b11, b12, b13, b14, b15, b16, b17, b18, b19, b20, b21, b22, b23, false, b25, v27, v28, v29, v30, v31, v32, .int .i64 (x : Int), v34, v35, v36, v37, v38, v39, v40, v41, v42, v43, v44, v45, v46, v47, v48, v49, v50, v51, v6, rfl, (by simp only [Act.put, List.setIfInBounds_toArray, List.set_cons_zero, List.set_cons_succ]), ⟨_, hB, by simp⟩, h0, h1, h2, h3, h4, h5, Lib.hid (fun _ => rfl), h7, h8, h9, h10, h11, h12, h13, h14, h15, h16, h17, h18, h19, h20, h21, h22, h23, h25, Lib.hid ⟨(fun _ => rfl), (fun _ => rfl)⟩, u2_1, u4_2, u4_3, u5_4, u7_5, Lib.hid (fun _ => rfl), u8_7, u9_8, u10_9, u22_10, u18_11, u13_12, u14_13, u17_14, u16_15, u17_16, u18_17, u19_18, u20_19, u21_20, u22_21, u23_22, w25, r25, x0_25⟩
              · -- operation 7
                replace hK := Lib.hid hK
                have hmid0 : b8 = false := by cases hb : b8 with | false => rfl | true => exact absurd (show true = false from (u8_7.out hb).symm.trans hun) (by decide)
                have hmid1 : b9 = false := by cases hb : b9 with | false => rfl | true => exact absurd (show true = false from (u9_8.out hb).symm.trans hmid0) (by decide)
                have hmid2 : b10 = false := by cases hb : b10 with | false => rfl | true => exact absurd (show true = false from (u10_9.out hb).symm.trans hmid1) (by decide)
                have hmid3 : b22 = false := by cases hb : b22 with | false => rfl | true => exact absurd (show true = false from (u22_10.out hb).symm.trans hmid2) (by decide)
                have hmid4 : b23 = false := by cases hb : b23 with | false => rfl | true => exact absurd (show true = false from (u23_22.out hb).symm.trans hmid3) (by decide)
                have hlast : b24 = false := p.out.2 hmid4
                clear hmid0 hmid1 hmid2 hmid3 hmid4
                subst hlast
                obtain ⟨Wp, hB, hWp⟩ := hB
                have hWq : W = Wp := by simpa using hWp
                clear hWp
                subst hWq
                have qq := HC.out W hB
                obtain ⟨q0, q1, q2⟩ := qq
                have qo := HO2.out W hB
                have qs : w3.heap.size ≤ W.heap.size := Nat.le_trans hle hB.size
                obtain rfl := (h5.out (by simp only [haf])).symm
                obtain rfl := (h6.out (by simp only [haf])).symm
                subst hun
                go_simp
                exact hK.out _ _ ⟨b0, b1, b2, b3, b4, b5, b6, true, b8, b9, b10, b11, b12, b13, b14, b15, b16, b17, b18, b19, b20, b21, b22, b23, false, b25, v27, v28, v29, v30, v31, .slice (some ⟨qb, qo2, none⟩) a qc, .int .i64 (x : Int), .pointer (some ⟨qb, qo2 + x, none⟩), v35, v36, v37, v38, v39, v40, v41, v42, v43, v44, v45, v46, v47, v48, v49, v50, v51, v6, rfl, (by simp only [Act.put, List.setIfInBounds_toArray, List.set_cons_zero, List.set_cons_succ]), ⟨_, hB, by simp⟩, h0, h1, h2, h3, h4, Lib.hid (fun _ => rfl), Lib.hid (fun _ => rfl), Lib.hid (fun _ => rfl), h8, h9, h10, h11, h12, h13, h14, h15, h16, h17, h18, h19, h20, h21, h22, h23, h25, Lib.hid ⟨(fun _ => rfl), (fun _ => rfl)⟩, u2_1, u4_2, u4_3, u5_4, Lib.hid (fun _ => (by simp only [haf])), Lib.hid (fun _ => (by simp only [haf])), Lib.hid (fun _ => rfl), u9_8, u10_9, u22_10, u18_11, u13_12, u14_13, u17_14, u16_15, u17_16, u18_17, u19_18, u20_19, u21_20, u22_21, u23_22, w25, r25, x0_25⟩
              · -- operation 8
                replace hK := Lib.hid hK
                have hmid0 : b9 = false := by cases hb : b9 with | false => rfl | true => exact absurd (show true = false from (u9_8.out hb).symm.trans hun) (by decide)
                have hmid1 : b10 = false := by cases hb : b10 with | false => rfl | true => exact absurd (show true = false from (u10_9.out hb).symm.trans hmid0) (by decide)
                have hmid2 : b22 = false := by cases hb : b22 with | false => rfl | true => exact absurd (show true = false from (u22_10.out hb).symm.trans hmid1) (by decide)
                have hmid3 : b23 = false := by cases hb : b23 with | false => rfl | true => exact absurd (show true = false from (u23_22.out hb).symm.trans hmid2) (by decide)
                have hlast : b24 = false := p.out.2 hmid3
                clear hmid0 hmid1 hmid2 hmid3
                subst hlast
                obtain ⟨Wp, hB, hWp⟩ := hB
                have hWq : W = Wp := by simpa using hWp
                clear hWp
                subst hWq
                have qq := HC.out W hB
                obtain ⟨q0, q1, q2⟩ := qq
                have qo := HO2.out W hB
                have qs : w3.heap.size ≤ W.heap.size := Nat.le_trans hle hB.size
                obtain rfl := (h7.out (by simp only [haf])).symm
                subst hun
                go_simp
                exact hK.out _ _ ⟨b0, b1, b2, b3, b4, b5, b6, b7, true, b9, b10, b11, b12, b13, b14, b15, b16, b17, b18, b19, b20, b21, b22, b23, false, b25, v27, v28, v29, v30, v31, v32, v33, .pointer (some ⟨qb, qo2 + x, none⟩), .int .i64 z, v36, v37, v38, v39, v40, v41, v42, v43, v44, v45, v46, v47, v48, v49, v50, v51, v6, rfl, (by simp only [Act.put, List.setIfInBounds_toArray, List.set_cons_zero, List.set_cons_succ]), ⟨_, hB, by simp⟩, h0, h1, h2, h3, h4, h5, h6, Lib.hid (fun _ => rfl), Lib.hid (fun _ => rfl), h9, h10, h11, h12, h13, h14, h15, h16, h17, h18, h19, h20, h21, h22, h23, h25, Lib.hid ⟨(fun _ => rfl), (fun _ => rfl)⟩, u2_1, u4_2, u4_3, u5_4, u7_5, u7_6, Lib.hid (fun _ => (by simp only [haf])), Lib.hid (fun _ => rfl), u10_9, u22_10, u18_11, u13_12, u14_13, u17_14, u16_15, u17_16, u18_17, u19_18, u20_19, u21_20, u22_21, u23_22, w25, r25, x0_25⟩
              · -- operation 9
                replace hK := Lib.hid hK
                have hmid0 : b10 = false := by cases hb : b10 with | false => rfl | true => exact absurd (show true = false from (u10_9.out hb).symm.trans hun) (by decide)
                have hmid1 : b22 = false := by cases hb : b22 with | false => rfl | true => exact absurd (show true = false from (u22_10.out hb).symm.trans hmid0) (by decide)
                have hmid2 : b23 = false := by cases hb : b23 with | false => rfl | true => exact absurd (show true = false from (u23_22.out hb).symm.trans hmid1) (by decide)
                have hlast : b24 = false := p.out.2 hmid2
                clear hmid0 hmid1 hmid2
                subst hlast
                obtain ⟨Wp, hB, hWp⟩ := hB
                have hWq : W = Wp := by simpa using hWp
                clear hWp
                subst hWq
                have qq := HC.out W hB
                obtain ⟨q0, q1, q2⟩ := qq
                have qo := HO2.out W hB
                have qs : w3.heap.size ≤ W.heap.size := Nat.le_trans hle hB.size
                obtain rfl := (h8.out (by simp only [haf])).symm
                subst hun
                go_simp
                exact hK.out _ _ ⟨b0, b1, b2, b3, b4, b5, b6, b7, b8, true, b10, b11, b12, b13, b14, b15, b16, b17, b18, b19, b20, b21, b22, b23, false, b25, v27, v28, v29, v30, v31, v32, v33, v34, .int .i64 z, .int .i64 (16 * z), v37, v38, v39, v40, v41, v42, v43, v44, v45, v46, v47, v48, v49, v50, v51, v6, rfl, (by simp only [Act.put, List.setIfInBounds_toArray, List.set_cons_zero, List.set_cons_succ]), ⟨_, hB, by simp⟩, h0, h1, h2, h3, h4, h5, h6, h7, Lib.hid (fun _ => rfl), Lib.hid (fun _ => rfl), h10, h11, h12, h13, h14, h15, h16, h17, h18, h19, h20, h21, h22, h23, h25, Lib.hid ⟨(fun _ => rfl), (fun _ => rfl)⟩, u2_1, u4_2, u4_3, u5_4, u7_5, u7_6, u8_7, Lib.hid (fun _ => (by simp only [haf])), Lib.hid (fun _ => rfl), u22_10, u18_11, u13_12, u14_13, u17_14, u16_15, u17_16, u18_17, u19_18, u20_19, u21_20, u22_21, u23_22, w25, r25, x0_25⟩
              · -- operation 10
                replace hK := Lib.hid hK
                have hmid0 : b22 = false := by cases hb : b22 with | false => rfl | true => exact absurd (show true = false from (u22_10.out hb).symm.trans hun) (by decide)
                have hmid1 : b23 = false := by cases hb : b23 with | false => rfl | true => exact absurd (show true = false from (u23_22.out hb).symm.trans hmid0) (by decide)
                have hlast : b24 = false := p.out.2 hmid1
                clear hmid0 hmid1
                subst hlast
                obtain ⟨Wp, hB, hWp⟩ := hB
                have hWq : W = Wp := by simpa using hWp
                clear hWp
                subst hWq
                have qq := HC.out W hB
                obtain ⟨q0, q1, q2⟩ := qq
                have qo := HO2.out W hB
                have qs : w3.heap.size ≤ W.heap.size := Nat.le_trans hle hB.size
                obtain rfl := (h9.out (by simp only [haf])).symm
                subst hun
                go_simp
                exact hK.out _ _ ⟨b0, b1, b2, b3, b4, b5, b6, b7, b8, b9, true, b11, b12, b13, b14, b15, b16, b17, b18, b19, b20, b21, b22, b23, false, b25, v27, v28, v29, v30, v31, v32, v33, v34, v35, .int .i64 (16 * z), .int .i64 (16 * z + 8), v38, v39, v40, v41, v42, v43, v44, v45, v46, v47, v48, v49, v50, v51, v6, rfl, (by simp only [Act.put, List.setIfInBounds_toArray, List.set_cons_zero, List.set_cons_succ]), ⟨_, hB, by simp⟩, h0, h1, h2, h3, h4, h5, h6, h7, h8, Lib.hid (fun _ => rfl), Lib.hid (fun _ => rfl), h11, h12, h13, h14, h15, h16, h17, h18, h19, h20, h21, h22, h23, h25, Lib.hid ⟨(fun _ => rfl), (fun _ => rfl)⟩, u2_1, u4_2, u4_3, u5_4, u7_5, u7_6, u8_7, u9_8, Lib.hid (fun _ => (by simp only [haf])), Lib.hid (fun _ => rfl), u18_11, u13_12, u14_13, u17_14, u16_15, u17_16, u18_17, u19_18, u20_19, u21_20, u22_21, u23_22, w25, r25, x0_25⟩
              · -- operation 11
                replace hK := Lib.hid hK
                have hmid0 : b18 = false := by cases hb : b18 with | false => rfl | true => exact absurd (show true = false from (u18_11.out hb).symm.trans hun) (by decide)
                have hmid1 : b19 = false := by cases hb : b19 with | false => rfl | true => exact absurd (show true = false from (u19_18.out hb).symm.trans hmid0) (by decide)
                have hmid2 : b20 = false := by cases hb : b20 with | false => rfl | true => exact absurd (show true = false from (u20_19.out hb).symm.trans hmid1) (by decide)
                have hmid3 : b21 = false := by cases hb : b21 with | false => rfl | true => exact absurd (show true = false from (u21_20.out hb).symm.trans hmid2) (by decide)
                have hmid4 : b22 = false := by cases hb : b22 with | false => rfl | true => exact absurd (show true = false from (u22_21.out hb).symm.trans hmid3) (by decide)
                have hmid5 : b23 = false := by cases hb : b23 with | false => rfl | true => exact absurd (show true = false from (u23_22.out hb).symm.trans hmid4) (by decide)
                have hlast : b24 = false := p.out.2 hmid5
                clear hmid0 hmid1 hmid2 hmid3 hmid4 hmid5
                subst hlast
                obtain ⟨Wp, hB, hWp⟩ := hB
                have hWq : W = Wp := by simpa using hWp
                clear hWp
                subst hWq
                have qq := HC.out W hB
                obtain ⟨q0, q1, q2⟩ := qq
                have qo := HO2.out W hB
                have qs : w3.heap.size ≤ W.heap.size := Nat.le_trans hle hB.size
                subst hun
                go_simp
                refine (CT.out W).mono ?_
                rintro e W' ⟨g, rfl, hnew, hb⟩
                have hkept := fun kb (hk : kb < W.heap.size) => hb.block kb hk
                exact hK.out _ _ ⟨b0, b1, b2, b3, b4, b5, b6, b7, b8, b9, b10, true, b12, b13, b14, b15, b16, b17, b18, b19, b20, b21, b22, b23, false, b25, v27, v28, v29, v30, v31, v32, v33, v34, v35, v36, v37, .slice (some ⟨g, 0, none⟩) 16 16, v39, v40, v41, v42, v43, v44, v45, v46, v47, v48, v49, v50, v51, v6, rfl, (by simp only [Act.put, List.setIfInBounds_toArray, List.set_cons_zero, List.set_cons_succ]), ⟨_, hB.trans (hb.mono hB.size), by simp⟩, h0, h1, h2, h3, h4, h5, h6, h7, h8, h9, h10, Lib.hid (fun _ _ => ⟨g, rfl, hnew⟩), h12, h13, h14, h15, h16, h17, Lib.hid (fun hx hu => by obtain ⟨g, e1, fx⟩ := h18.out hx hu; exact ⟨g, e1, cell_kept hb fx⟩), h19, h20, h21, h22, Lib.hid (fun hx hu => by obtain ⟨mb, e1, fx⟩ := h23.out hx hu; exact ⟨mb, e1, cell_kept hb fx⟩), h25, Lib.hid ⟨(fun _ => rfl), (fun _ => rfl)⟩, u2_1, u4_2, u4_3, u5_4, u7_5, u7_6, u8_7, u9_8, u10_9, u22_10, Lib.hid (fun _ => rfl), u13_12, u14_13, u17_14, u16_15, u17_16, u18_17, u19_18, u20_19, u21_20, u22_21, u23_22, w25, r25, x0_25⟩
              · -- operation 12
                replace hK := Lib.hid hK
                have hmid0 : b13 = false := by cases hb : b13 with | false => rfl | true => exact absurd (show true = false from (u13_12.out hb).symm.trans hun) (by decide)
                have hmid1 : b14 = false := by cases hb : b14 with | false => rfl | true => exact absurd (show true = false from (u14_13.out hb).symm.trans hmid0) (by decide)
                have hmid2 : b17 = false := by cases hb : b17 with | false => rfl | true => exact absurd (show true = false from (u17_14.out hb).symm.trans hmid1) (by decide)
                have hmid3 : b18 = false := by cases hb : b18 with | false => rfl | true => exact absurd (show true = false from (u18_17.out hb).symm.trans hmid2) (by decide)
                have hmid4 : b19 = false := by cases hb : b19 with | false => rfl | true => exact absurd (show true = false from (u19_18.out hb).symm.trans hmid3) (by decide)
                have hmid5 : b20 = false := by cases hb : b20 with | false => rfl | true => exact absurd (show true = false from (u20_19.out hb).symm.trans hmid4) (by decide)
                have hmid6 : b21 = false := by cases hb : b21 with | false => rfl | true => exact absurd (show true = false from (u21_20.out hb).symm.trans hmid5) (by decide)
                have hmid7 : b22 = false := by cases hb : b22 with | false => rfl | true => exact absurd (show true = false from (u22_21.out hb).symm.trans hmid6) (by decide)
                have hmid8 : b23 = false := by cases hb : b23 with | false => rfl | true => exact absurd (show true = false from (u23_22.out hb).symm.trans hmid7) (by decide)
                have hlast : b24 = false := p.out.2 hmid8
                clear hmid0 hmid1 hmid2 hmid3 hmid4 hmid5 hmid6 hmid7 hmid8
                subst hlast
                obtain ⟨Wp, hB, hWp⟩ := hB
                have hWq : W = Wp := by simpa using hWp
                clear hWp
                subst hWq
                have qq := HC.out W hB
                obtain ⟨q0, q1, q2⟩ := qq
                have qo := HO2.out W hB
                have qs : w3.heap.size ≤ W.heap.size := Nat.le_trans hle hB.size
                subst hun
                go_simp
                exact hK.out _ _ ⟨b0, b1, b2, b3, b4, b5, b6, b7, b8, b9, b10, b11, true, b13, b14, b15, b16, b17, b18, b19, b20, b21, b22, b23, false, b25, v27, v28, v29, v30, v31, v32, v33, v34, v35, v36, v37, v38, .int .i64 (y : Int), v40, v41, v42, v43, v44, v45, v46, v47, v48, v49, v50, v51, v6, rfl, (by simp only [Act.put, List.setIfInBounds_toArray, List.set_cons_zero, List.set_cons_succ]), ⟨_, hB, by simp⟩, h0, h1, h2, h3, h4, h5, h6, h7, h8, h9, h10, h11, Lib.hid (fun _ => rfl), h13, h14, h15, h16, h17, h18, h19, h20, h21, h22, h23, h25, Lib.hid ⟨(fun _ => rfl), (fun _ => rfl)⟩, u2_1, u4_2, u4_3, u5_4, u7_5, u7_6, u8_7, u9_8, u10_9, u22_10, u18_11, Lib.hid (fun _ => rfl), u14_13, u17_14, u16_15, u17_16, u18_17, u19_18, u20_19, u21_20, u22_21, u23_22, w25, r25, x0_25⟩
              · -- operation 13
                replace hK := Lib.hid hK
                have hmid0 : b14 = false := by cases hb : b14 with | false => rfl | true => exact absurd (show true = false from (u14_13.out hb).symm.trans hun) (by decide)
                have hmid1 : b17 = false := by cases hb : b17 with | false => rfl | true => exact absurd (show true = false from (u17_14.out hb).symm.trans hmid0) (by decide)
                have hmid2 : b18 = false := by cases hb : b18 with | false => rfl | true => exact absurd (show true = false from (u18_17.out hb).symm.trans hmid1) (by decide)
                have hmid3 : b19 = false := by cases hb : b19 with | false => rfl | true => exact absurd (show true = false from (u19_18.out hb).symm.trans hmid2) (by decide)
                have hmid4 : b20 = false := by cases hb : b20 with | false => rfl | true => exact absurd (show true = false from (u20_19.out hb).symm.trans hmid3) (by decide)
                have hmid5 : b21 = false := by cases hb : b21 with | false => rfl | true => exact absurd (show true = false from (u21_20.out hb).symm.trans hmid4) (by decide)
                have hmid6 : b22 = false := by cases hb : b22 with | false => rfl | true => exact absurd (show true = false from (u22_21.out hb).symm.trans hmid5) (by decide)
                have hmid7 : b23 = false := by cases hb : b23 with | false => rfl | true => exact absurd (show true = false from (u23_22.out hb).symm.trans hmid6) (by decide)
                have hlast : b24 = false := p.out.2 hmid7
                clear hmid0 hmid1 hmid2 hmid3 hmid4 hmid5 hmid6 hmid7
                subst hlast
                obtain ⟨Wp, hB, hWp⟩ := hB
                have hWq : W = Wp := by simpa using hWp
                clear hWp
                subst hWq
                have qq := HC.out W hB
                obtain ⟨q0, q1, q2⟩ := qq
                have qo := HO2.out W hB
                have qs : w3.heap.size ≤ W.heap.size := Nat.le_trans hle hB.size
                obtain rfl := (h12.out (by simp only [haf])).symm
                subst hun
                go_simp
                try rw [kw5]
                exact hK.out _ _ ⟨b0, b1, b2, b3, b4, b5, b6, b7, b8, b9, b10, b11, b12, true, b14, b15, b16, b17, b18, b19, b20, b21, b22, b23, false, b25, v27, v28, v29, v30, v31, v32, v33, v34, v35, v36, v37, v38, .int .i64 (y : Int), .int .i64 (pm : Int), v41, v42, v43, v44, v45, v46, v47, v48, v49, v50, v51, v6, rfl, (by simp only [Act.put, List.setIfInBounds_toArray, List.set_cons_zero, List.set_cons_succ]), ⟨_, hB, by simp⟩, h0, h1, h2, h3, h4, h5, h6, h7, h8, h9, h10, h11, Lib.hid (fun _ => rfl), Lib.hid (fun _ => rfl), h14, h15, h16, h17, h18, h19, h20, h21, h22, h23, h25, Lib.hid ⟨(fun _ => rfl), (fun _ => rfl)⟩, u2_1, u4_2, u4_3, u5_4, u7_5, u7_6, u8_7, u9_8, u10_9, u22_10, u18_11, Lib.hid (fun _ => (by simp only [haf])), Lib.hid (fun _ => rfl), u17_14, u16_15, u17_16, u18_17, u19_18, u20_19, u21_20, u22_21, u23_22, w25, r25, x0_25⟩
              · -- operation 14
                replace hK := Lib.hid hK
                have hmid0 : b17 = false := by cases hb : b17 with | false => rfl | true => exact absurd (show true = false from (u17_14.out hb).symm.trans hun) (by decide)
                have hmid1 : b18 = false := by cases hb : b18 with | false => rfl | true => exact absurd (show true = false from (u18_17.out hb).symm.trans hmid0) (by decide)
                have hmid2 : b19 = false := by cases hb : b19 with | false => rfl | true => exact absurd (show true = false from (u19_18.out hb).symm.trans hmid1) (by decide)
                have hmid3 : b20 = false := by cases hb : b20 with | false => rfl | true => exact absurd (show true = false from (u20_19.out hb).symm.trans hmid2) (by decide)
                have hmid4 : b21 = false := by cases hb : b21 with | false => rfl | true => exact absurd (show true = false from (u21_20.out hb).symm.trans hmid3) (by decide)
                have hmid5 : b22 = false := by cases hb : b22 with | false => rfl | true => exact absurd (show true = false from (u22_21.out hb).symm.trans hmid4) (by decide)
                have hmid6 : b23 = false := by cases hb : b23 with | false => rfl | true => exact absurd (show true = false from (u23_22.out hb).symm.trans hmid5) (by decide)
                have hlast : b24 = false := p.out.2 hmid6
                clear hmid0 hmid1 hmid2 hmid3 hmid4 hmid5 hmid6
                subst hlast
                obtain ⟨Wp, hB, hWp⟩ := hB
                have hWq : W = Wp := by simpa using hWp
                clear hWp
                subst hWq
                have qq := HC.out W hB
                obtain ⟨q0, q1, q2⟩ := qq
                have qo := HO2.out W hB
                have qs : w3.heap.size ≤ W.heap.size := Nat.le_trans hle hB.size
                obtain rfl := (h13.out (by simp only [haf])).symm
                subst hun
                go_simp
                exact hK.out _ _ ⟨b0, b1, b2, b3, b4, b5, b6, b7, b8, b9, b10, b11, b12, b13, true, b15, b16, b17, b18, b19, b20, b21, b22, b23, false, b25, v27, v28, v29, v30, v31, v32, v33, v34, v35, v36, v37, v38, v39, .int .i64 (pm : Int), .int .i64 ((pm : Int) * 4), v42, v43, v44, v45, v46, v47, v48, v49, v50, v51, v6, rfl, (by simp only [Act.put, List.setIfInBounds_toArray, List.set_cons_zero, List.set_cons_succ]), ⟨_, hB, by simp⟩, h0, h1, h2, h3, h4, h5, h6, h7, h8, h9, h10, h11, h12, Lib.hid (fun _ => rfl), Lib.hid (fun _ => rfl), h15, h16, h17, h18, h19, h20, h21, h22, h23, h25, Lib.hid ⟨(fun _ => rfl), (fun _ => rfl)⟩, u2_1, u4_2, u4_3, u5_4, u7_5, u7_6, u8_7, u9_8, u10_9, u22_10, u18_11, u13_12, Lib.hid (fun _ => (by simp only [haf])), Lib.hid (fun _ => rfl), u16_15, u17_16, u18_17, u19_18, u20_19, u21_20, u22_21, u23_22, w25, r25, x0_25⟩
              · -- operation 15
                replace hK := Lib.hid hK
                have hmid0 : b16 = false := by cases hb : b16 with | false => rfl | true => exact absurd (show true = false from (u16_15.out hb).symm.trans hun) (by decide)
                have hmid1 : b17 = false := by cases hb : b17 with | false => rfl | true => exact absurd (show true = false from (u17_16.out hb).symm.trans hmid0) (by decide)
                have hmid2 : b18 = false := by cases hb : b18 with | false => rfl | true => exact absurd (show true = false from (u18_17.out hb).symm.trans hmid1) (by decide)
                have hmid3 : b19 = false := by cases hb : b19 with | false => rfl | true => exact absurd (show true = false from (u19_18.out hb).symm.trans hmid2) (by decide)
                have hmid4 : b20 = false := by cases hb : b20 with | false => rfl | true => exact absurd (show true = false from (u20_19.out hb).symm.trans hmid3) (by decide)
                have hmid5 : b21 = false := by cases hb : b21 with | false => rfl | true => exact absurd (show true = false from (u21_20.out hb).symm.trans hmid4) (by decide)
                have hmid6 : b22 = false := by cases hb : b22 with | false => rfl | true => exact absurd (show true = false from (u22_21.out hb).symm.trans hmid5) (by decide)
                have hmid7 : b23 = false := by cases hb : b23 with | false => rfl | true => exact absurd (show true = false from (u23_22.out hb).symm.trans hmid6) (by decide)
                have hlast : b24 = false := p.out.2 hmid7
                clear hmid0 hmid1 hmid2 hmid3 hmid4 hmid5 hmid6 hmid7
                subst hlast
                obtain ⟨Wp, hB, hWp⟩ := hB
                have hWq : W = Wp := by simpa using hWp
                clear hWp
                subst hWq
                have qq := HC.out W hB
                obtain ⟨q0, q1, q2⟩ := qq
                have qo := HO2.out W hB
                have qs : w3.heap.size ≤ W.heap.size := Nat.le_trans hle hB.size
                subst hun
                go_simp
                exact hK.out _ _ ⟨b0, b1, b2, b3, b4, b5, b6, b7, b8, b9, b10, b11, b12, b13, b14, true, b16, b17, b18, b19, b20, b21, b22, b23, false, b25, v27, v28, v29, v30, v31, v32, v33, v34, v35, v36, v37, v38, v39, v40, v41, .int .i64 (x : Int), v43, v44, v45, v46, v47, v48, v49, v50, v51, v6, rfl, (by simp only [Act.put, List.setIfInBounds_toArray, List.set_cons_zero, List.set_cons_succ]), ⟨_, hB, by simp⟩, h0, h1, h2, h3, h4, h5, h6, h7, h8, h9, h10, h11, h12, h13, h14, Lib.hid (fun _ => rfl), h16, h17, h18, h19, h20, h21, h22, h23, h25, Lib.hid ⟨(fun _ => rfl), (fun _ => rfl)⟩, u2_1, u4_2, u4_3, u5_4, u7_5, u7_6, u8_7, u9_8, u10_9, u22_10, u18_11, u13_12, u14_13, u17_14, Lib.hid (fun _ => rfl), u17_16, u18_17, u19_18, u20_19, u21_20, u22_21, u23_22, w25, r25, x0_25⟩
              · -- operation 16
                replace hK := Lib.hid hK
                have hmid0 : b17 = false := by cases hb : b17 with | false => rfl | true => exact absurd (show true = false from (u17_16.out hb).symm.trans hun) (by decide)
                have hmid1 : b18 = false := by cases hb : b18 with | false => rfl | true => exact absurd (show true = false from (u18_17.out hb).symm.trans hmid0) (by decide)
                have hmid2 : b19 = false := by cases hb : b19 with | false => rfl | true => exact absurd (show true = false from (u19_18.out hb).symm.trans hmid1) (by decide)
                have hmid3 : b20 = false := by cases hb : b20 with | false => rfl | true => exact absurd (show true = false from (u20_19.out hb).symm.trans hmid2) (by decide)
                have hmid4 : b21 = false := by cases hb : b21 with | false => rfl | true => exact absurd (show true = false from (u21_20.out hb).symm.trans hmid3) (by decide)
                have hmid5 : b22 = false := by cases hb : b22 with | false => rfl | true => exact absurd (show true = false from (u22_21.out hb).symm.trans hmid4) (by decide)
                have hmid6 : b23 = false := by cases hb : b23 with | false => rfl | true => exact absurd (show true = false from (u23_22.out hb).symm.trans hmid5) (by decide)
                have hlast : b24 = false := p.out.2 hmid6
                clear hmid0 hmid1 hmid2 hmid3 hmid4 hmid5 hmid6
                subst hlast
                obtain ⟨Wp, hB, hWp⟩ := hB
                have hWq : W = Wp := by simpa using hWp
                clear hWp
                subst hWq
                have qq := HC.out W hB
                obtain ⟨q0, q1, q2⟩ := qq
                have qo := HO2.out W hB
                have qs : w3.heap.size ≤ W.heap.size := Nat.le_trans hle hB.size
                obtain rfl := (h15.out (by simp only [haf])).symm
                subst hun
                go_simp
                try rw [kw6]
                exact hK.out _ _ ⟨b0, b1, b2, b3, b4, b5, b6, b7, b8, b9, b10, b11, b12, b13, b14, b15, true, b17, b18, b19, b20, b21, b22, b23, false, b25, v27, v28, v29, v30, v31, v32, v33, v34, v35, v36, v37, v38, v39, v40, v41, .int .i64 (x : Int), .int .i64 (rm : Int), v44, v45, v46, v47, v48, v49, v50, v51, v6, rfl, (by simp only [Act.put, List.setIfInBounds_toArray, List.set_cons_zero, List.set_cons_succ]), ⟨_, hB, by simp⟩, h0, h1, h2, h3, h4, h5, h6, h7, h8, h9, h10, h11, h12, h13, h14, Lib.hid (fun _ => rfl), Lib.hid (fun _ => rfl), h17, h18, h19, h20, h21, h22, h23, h25, Lib.hid ⟨(fun _ => rfl), (fun _ => rfl)⟩, u2_1, u4_2, u4_3, u5_4, u7_5, u7_6, u8_7, u9_8, u10_9, u22_10, u18_11, u13_12, u14_13, u17_14, Lib.hid (fun _ => (by simp only [haf])), Lib.hid (fun _ => rfl), u18_17, u19_18, u20_19, u21_20, u22_21, u23_22, w25, r25, x0_25⟩
              · -- operation 17
                replace hK := Lib.hid hK
                have hmid0 : b18 = false := by cases hb : b18 with | false => rfl | true => exact absurd (show true = false from (u18_17.out hb).symm.trans hun) (by decide)
                have hmid1 : b19 = false := by cases hb : b19 with | false => rfl | true => exact absurd (show true = false from (u19_18.out hb).symm.trans hmid0) (by decide)
                have hmid2 : b20 = false := by cases hb : b20 with | false => rfl | true => exact absurd (show true = false from (u20_19.out hb).symm.trans hmid1) (by decide)
                have hmid3 : b21 = false := by cases hb : b21 with | false => rfl | true => exact absurd (show true = false from (u21_20.out hb).symm.trans hmid2) (by decide)
                have hmid4 : b22 = false := by cases hb : b22 with | false => rfl | true => exact absurd (show true = false from (u22_21.out hb).symm.trans hmid3) (by decide)
                have hmid5 : b23 = false := by cases hb : b23 with | false => rfl | true => exact absurd (show true = false from (u23_22.out hb).symm.trans hmid4) (by decide)
                have hlast : b24 = false := p.out.2 hmid5
                clear hmid0 hmid1 hmid2 hmid3 hmid4 hmid5
                subst hlast
                obtain ⟨Wp, hB, hWp⟩ := hB
                have hWq : W = Wp := by simpa using hWp
                clear hWp
                subst hWq
                have qq := HC.out W hB
                obtain ⟨q0, q1, q2⟩ := qq
                have qo := HO2.out W hB
                have qs : w3.heap.size ≤ W.heap.size := Nat.le_trans hle hB.size
                obtain rfl := (h14.out (by simp only [haf])).symm
                obtain rfl := (h16.out (by simp only [haf])).symm
                subst hun
                go_simp
                exact hK.out _ _ ⟨b0, b1, b2, b3, b4, b5, b6, b7, b8, b9, b10, b11, b12, b13, b14, b15, b16, true, b18, b19, b20, b21, b22, b23, false, b25, v27, v28, v29, v30, v31, v32, v33, v34, v35, v36, v37, v38, v39, v40, .int .i64 ((pm : Int) * 4), v42, .int .i64 (rm : Int), .int .i64 (K : Int), v45, v46, v47, v48, v49, v50, v51, v6, rfl, (by simp only [Act.put, List.setIfInBounds_toArray, List.set_cons_zero, List.set_cons_succ]), ⟨_, hB, by simp⟩, h0, h1, h2, h3, h4, h5, h6, h7, h8, h9, h10, h11, h12, h13, Lib.hid (fun _ => rfl), h15, Lib.hid (fun _ => rfl), Lib.hid (fun _ => rfl), h18, h19, h20, h21, h22, h23, h25, Lib.hid ⟨(fun _ => rfl), (fun _ => rfl)⟩, u2_1, u4_2, u4_3, u5_4, u7_5, u7_6, u8_7, u9_8, u10_9, u22_10, u18_11, u13_12, u14_13, Lib.hid (fun _ => (by simp only [haf])), u16_15, Lib.hid (fun _ => (by simp only [haf])), Lib.hid (fun _ => rfl), u19_18, u20_19, u21_20, u22_21, u23_22, w25, r25, x0_25⟩
              · -- operation 18
                replace hK := Lib.hid hK
                have hmid0 : b19 = false := by cases hb : b19 with | false => rfl | true => exact absurd (show true = false from (u19_18.out hb).symm.trans hun) (by decide)
                have hmid1 : b20 = false := by cases hb : b20 with | false => rfl | true => exact absurd (show true = false from (u20_19.out hb).symm.trans hmid0) (by decide)
                have hmid2 : b21 = false := by cases hb : b21 with | false => rfl | true => exact absurd (show true = false from (u21_20.out hb).symm.trans hmid1) (by decide)
                have hmid3 : b22 = false := by cases hb : b22 with | false => rfl | true => exact absurd (show true = false from (u22_21.out hb).symm.trans hmid2) (by decide)
                have hmid4 : b23 = false := by cases hb : b23 with | false => rfl | true => exact absurd (show true = false from (u23_22.out hb).symm.trans hmid3) (by decide)
                have hlast : b24 = false := p.out.2 hmid4
                clear hmid0 hmid1 hmid2 hmid3 hmid4
                subst hlast
                obtain ⟨Wp, hB, hWp⟩ := hB
                have hWq : W = Wp := by simpa using hWp
                clear hWp
                subst hWq
                have qq := HC.out W hB
                obtain ⟨q0, q1, q2⟩ := qq
                have qo := HO2.out W hB
                have qs : w3.heap.size ≤ W.heap.size := Nat.le_trans hle hB.size
                obtain ⟨g, rfl, fg⟩ := h11.out (by simp only [haf]) (by first | exact hun | simp only [haf])
                obtain rfl := (h17.out (by simp only [haf])).symm
                subst hun
                go_simp
                have hb := Below.refl W.heap.size W
                have hkept := fun kb (hk : kb < W.heap.size) => hb.block kb hk
                exact hK.out _ _ ⟨b0, b1, b2, b3, b4, b5, b6, b7, b8, b9, b10, b11, b12, b13, b14, b15, b16, b17, true, b19, b20, b21, b22, b23, false, b25, v27, v28, v29, v30, v31, v32, v33, v34, v35, v36, v37, .slice (some ⟨g, 0, none⟩) 16 16, v39, v40, v41, v42, v43, .int .i64 (K : Int), .pointer (some ⟨g, K, none⟩), v46, v47, v48, v49, v50, v51, v6, rfl, (by simp only [Act.put, List.setIfInBounds_toArray, List.set_cons_zero, List.set_cons_succ]), ⟨_, hB.trans (hb.mono hB.size), by simp⟩, h0, h1, h2, h3, h4, h5, h6, h7, h8, h9, h10, Lib.hid (fun _ hu => by cases hu), h12, h13, h14, h15, h16, Lib.hid (fun _ => rfl), Lib.hid (fun _ _ => ⟨g, rfl, fg⟩), h19, h20, h21, h22, Lib.hid (fun hx hu => by obtain ⟨mb, e1, fx⟩ := h23.out hx hu; exact ⟨mb, e1, cell_kept hb fx⟩), h25, Lib.hid ⟨(fun _ => rfl), (fun _ => rfl)⟩, u2_1, u4_2, u4_3, u5_4, u7_5, u7_6, u8_7, u9_8, u10_9, u22_10, Lib.hid (fun _ => (by simp only [haf])), u13_12, u14_13, u17_14, u16_15, u17_16, Lib.hid (fun _ => (by simp only [haf])), Lib.hid (fun _ => rfl), u20_19, u21_20, u22_21, u23_22, w25, r25, x0_25⟩
              · -- operation 19
                replace hK := Lib.hid hK
                have hmid0 : b20 = false := by cases hb : b20 with | false => rfl | true => exact absurd (show true = false from (u20_19.out hb).symm.trans hun) (by decide)
                have hmid1 : b21 = false := by cases hb : b21 with | false => rfl | true => exact absurd (show true = false from (u21_20.out hb).symm.trans hmid0) (by decide)
                have hmid2 : b22 = false := by cases hb : b22 with | false => rfl | true => exact absurd (show true = false from (u22_21.out hb).symm.trans hmid1) (by decide)
                have hmid3 : b23 = false := by cases hb : b23 with | false => rfl | true => exact absurd (show true = false from (u23_22.out hb).symm.trans hmid2) (by decide)
                have hlast : b24 = false := p.out.2 hmid3
                clear hmid0 hmid1 hmid2 hmid3
                subst hlast
                obtain ⟨Wp, hB, hWp⟩ := hB
                have hWq : W = Wp := by simpa using hWp
                clear hWp
                subst hWq
                have qq := HC.out W hB
                obtain ⟨q0, q1, q2⟩ := qq
                have qo := HO2.out W hB
                have qs : w3.heap.size ≤ W.heap.size := Nat.le_trans hle hB.size
                obtain ⟨g, rfl, fg⟩ := h18.out (by simp only [haf]) (by first | exact hun | simp only [haf])
                subst hun
                go_simp
                exact hK.out _ _ ⟨b0, b1, b2, b3, b4, b5, b6, b7, b8, b9, b10, b11, b12, b13, b14, b15, b16, b17, b18, true, b20, b21, b22, b23, false, b25, v27, v28, v29, v30, v31, v32, v33, v34, v35, v36, v37, v38, v39, v40, v41, v42, v43, v44, .pointer (some ⟨g, K, none⟩), .int .i64 tb, v47, v48, v49, v50, v51, v6, rfl, (by simp only [Act.put, List.setIfInBounds_toArray, List.set_cons_zero, List.set_cons_succ]), ⟨_, hB, by simp⟩, h0, h1, h2, h3, h4, h5, h6, h7, h8, h9, h10, h11, h12, h13, h14, h15, h16, h17, Lib.hid (fun _ hu => by cases hu), Lib.hid (fun _ => rfl), h20, h21, h22, h23, h25, Lib.hid ⟨(fun _ => rfl), (fun _ => rfl)⟩, u2_1, u4_2, u4_3, u5_4, u7_5, u7_6, u8_7, u9_8, u10_9, u22_10, u18_11, u13_12, u14_13, u17_14, u16_15, u17_16, u18_17, Lib.hid (fun _ => (by simp only [haf])), Lib.hid (fun _ => rfl), u21_20, u22_21, u23_22, w25, r25, x0_25⟩
              · -- operation 20
                replace hK := Lib.hid hK
                have hmid0 : b21 = false := by cases hb : b21 with | false => rfl | true => exact absurd (show true = false from (u21_20.out hb).symm.trans hun) (by decide)
                have hmid1 : b22 = false := by cases hb : b22 with | false => rfl | true => exact absurd (show true = false from (u22_21.out hb).symm.trans hmid0) (by decide)
                have hmid2 : b23 = false := by cases hb : b23 with | false => rfl | true => exact absurd (show true = false from (u23_22.out hb).symm.trans hmid1) (by decide)
                have hlast : b24 = false := p.out.2 hmid2
                clear hmid0 hmid1 hmid2
                subst hlast
                obtain ⟨Wp, hB, hWp⟩ := hB
                have hWq : W = Wp := by simpa using hWp
                clear hWp
                subst hWq
                have qq := HC.out W hB
                obtain ⟨q0, q1, q2⟩ := qq
                have qo := HO2.out W hB
                have qs : w3.heap.size ≤ W.heap.size := Nat.le_trans hle hB.size
                obtain rfl := (h19.out (by simp only [haf])).symm
                subst hun
                go_simp
                exact hK.out _ _ ⟨b0, b1, b2, b3, b4, b5, b6, b7, b8, b9, b10, b11, b12, b13, b14, b15, b16, b17, b18, b19, true, b21, b22, b23, false, b25, v27, v28, v29, v30, v31, v32, v33, v34, v35, v36, v37, v38, v39, v40, v41, v42, v43, v44, v45, .int .i64 tb, .int .i64 (100 * tb), v48, v49, v50, v51, v6, rfl, (by simp only [Act.put, List.setIfInBounds_toArray, List.set_cons_zero, List.set_cons_succ]), ⟨_, hB, by simp⟩, h0, h1, h2, h3, h4, h5, h6, h7, h8, h9, h10, h11, h12, h13, h14, h15, h16, h17, h18, Lib.hid (fun _ => rfl), Lib.hid (fun _ => rfl), h21, h22, h23, h25, Lib.hid ⟨(fun _ => rfl), (fun _ => rfl)⟩, u2_1, u4_2, u4_3, u5_4, u7_5, u7_6, u8_7, u9_8, u10_9, u22_10, u18_11, u13_12, u14_13, u17_14, u16_15, u17_16, u18_17, u19_18, Lib.hid (fun _ => (by simp only [haf])), Lib.hid (fun _ => rfl), u22_21, u23_22, w25, r25, x0_25⟩
              · -- operation 21
                replace hK := Lib.hid hK
                have hmid0 : b22 = false := by cases hb : b22 with | false => rfl | true => exact absurd (show true = false from (u22_21.out hb).symm.trans hun) (by decide)
                have hmid1 : b23 = false := by cases hb : b23 with | false => rfl | true => exact absurd (show true = false from (u23_22.out hb).symm.trans hmid0) (by decide)
                have hlast : b24 = false := p.out.2 hmid1
                clear hmid0 hmid1
                subst hlast
                obtain ⟨Wp, hB, hWp⟩ := hB
                have hWq : W = Wp := by simpa using hWp
                clear hWp
                subst hWq
                have qq := HC.out W hB
                obtain ⟨q0, q1, q2⟩ := qq
                have qo := HO2.out W hB
                have qs : w3.heap.size ≤ W.heap.size := Nat.le_trans hle hB.size
                obtain rfl := (h20.out (by simp only [haf])).symm
                subst hun
                go_simp
                exact hK.out _ _ ⟨b0, b1, b2, b3, b4, b5, b6, b7, b8, b9, b10, b11, b12, b13, b14, b15, b16, b17, b18, b19, b20, true, b22, b23, false, b25, v27, v28, v29, v30, v31, v32, v33, v34, v35, v36, v37, v38, v39, v40, v41, v42, v43, v44, v45, v46, .int .i64 (100 * tb), .int .i64 (100 * tb + 50), v49, v50, v51, v6, rfl, (by simp only [Act.put, List.setIfInBounds_toArray, List.set_cons_zero, List.set_cons_succ]), ⟨_, hB, by simp⟩, h0, h1, h2, h3, h4, h5, h6, h7, h8, h9, h10, h11, h12, h13, h14, h15, h16, h17, h18, h19, Lib.hid (fun _ => rfl), Lib.hid (fun _ => rfl), h22, h23, h25, Lib.hid ⟨(fun _ => rfl), (fun _ => rfl)⟩, u2_1, u4_2, u4_3, u5_4, u7_5, u7_6, u8_7, u9_8, u10_9, u22_10, u18_11, u13_12, u14_13, u17_14, u16_15, u17_16, u18_17, u19_18, u20_19, Lib.hid (fun _ => (by simp only [haf])), Lib.hid (fun _ => rfl), u23_22, w25, r25, x0_25⟩
              · -- operation 22
                replace hK := Lib.hid hK
                have hmid0 : b23 = false := by cases hb : b23 with | false => rfl | true => exact absurd (show true = false from (u23_22.out hb).symm.trans hun) (by decide)
                have hlast : b24 = false := p.out.2 hmid0
                clear hmid0
                subst hlast
                obtain ⟨Wp, hB, hWp⟩ := hB
                have hWq : W = Wp := by simpa using hWp
                clear hWp
                subst hWq
                have qq := HC.out W hB
                obtain ⟨q0, q1, q2⟩ := qq
                have qo := HO2.out W hB
                have qs : w3.heap.size ≤ W.heap.size := Nat.le_trans hle hB.size
                obtain rfl := (h10.out (by simp only [haf])).symm
                obtain rfl := (h21.out (by simp only [haf])).symm
                subst hun
                go_simp
                exact hK.out _ _ ⟨b0, b1, b2, b3, b4, b5, b6, b7, b8, b9, b10, b11, b12, b13, b14, b15, b16, b17, b18, b19, b20, b21, true, b23, false, b25, v27, v28, v29, v30, v31, v32, v33, v34, v35, v36, .int .i64 (16 * z + 8), v38, v39, v40, v41, v42, v43, v44, v45, v46, v47, .int .i64 (100 * tb + 50), .bool c, v50, v51, v6, rfl, (by simp only [Act.put, List.setIfInBounds_toArray, List.set_cons_zero, List.set_cons_succ]), ⟨_, hB, by simp⟩, h0, h1, h2, h3, h4, h5, h6, h7, h8, h9, Lib.hid (fun _ => rfl), h11, h12, h13, h14, h15, h16, h17, h18, h19, h20, Lib.hid (fun _ => rfl), Lib.hid (fun _ => rfl), h23, h25, Lib.hid ⟨(fun _ => rfl), (fun _ => rfl)⟩, u2_1, u4_2, u4_3, u5_4, u7_5, u7_6, u8_7, u9_8, u10_9, Lib.hid (fun _ => (by simp only [haf])), u18_11, u13_12, u14_13, u17_14, u16_15, u17_16, u18_17, u19_18, u20_19, u21_20, Lib.hid (fun _ => (by simp only [haf])), Lib.hid (fun _ => rfl), w25, r25, x0_25⟩
              · -- operation 23
                replace hK := Lib.hid hK
                have hlast : b24 = false := p.out.2 hun
                subst hlast
                obtain ⟨Wp, hB, hWp⟩ := hB
                have hWq : W = Wp := by simpa using hWp
                clear hWp
                subst hWq
                have qq := HC.out W hB
                obtain ⟨q0, q1, q2⟩ := qq
                have qo := HO2.out W hB
                have qs : w3.heap.size ≤ W.heap.size := Nat.le_trans hle hB.size
                obtain rfl := (h22.out (by simp only [haf])).symm
                subst hun
                go_simp
                have hb := Joins.below_alloc1 W (.cells #[.bool c] 4)
                have hnew : (W.alloc (.cells #[.bool c] 4)).cell? ⟨W.heap.size, 0, none⟩ = some (.bool c) := by rw [World.cell?_alloc_mark]; rfl
                obtain ⟨mb, hmb⟩ : ∃ m, W.heap.size = m := ⟨_, rfl⟩
                rw [hmb] at hnew ⊢
                have hkept := fun kb (hk : kb < W.heap.size) => hb.block kb hk
                exact hK.out _ _ ⟨b0, b1, b2, b3, b4, b5, b6, b7, b8, b9, b10, b11, b12, b13, b14, b15, b16, b17, b18, b19, b20, b21, b22, true, false, b25, v27, v28, v29, v30, v31, v32, v33, v34, v35, v36, v37, v38, v39, v40, v41, v42, v43, v44, v45, v46, v47, v48, .bool c, .slice (some ⟨mb, 0, none⟩) 1 1, v51, v6, rfl, (by simp only [Act.put, List.setIfInBounds_toArray, List.set_cons_zero, List.set_cons_succ]), ⟨_, hB.trans (hb.mono hB.size), by simp⟩, h0, h1, h2, h3, h4, h5, h6, h7, h8, h9, h10, Lib.hid (fun hx hu => by obtain ⟨g, e1, fx⟩ := h11.out hx hu; exact ⟨g, e1, cell_kept hb fx⟩), h12, h13, h14, h15, h16, h17, Lib.hid (fun hx hu => by obtain ⟨g, e1, fx⟩ := h18.out hx hu; exact ⟨g, e1, cell_kept hb fx⟩), h19, h20, h21, Lib.hid (fun _ => rfl), Lib.hid (fun _ _ => ⟨mb, rfl, hnew⟩), h25, Lib.hid ⟨(fun _ => rfl), (fun hf => by cases hf)⟩, u2_1, u4_2, u4_3, u5_4, u7_5, u7_6, u8_7, u9_8, u10_9, u22_10, u18_11, u13_12, u14_13, u17_14, u16_15, u17_16, u18_17, u19_18, u20_19, u21_20, u22_21, Lib.hid (fun _ => (by simp only [haf])), w25, r25, x0_25⟩
              · -- operation 24
                replace hK := Lib.hid hK
                subst hun
                obtain ⟨Wp, hB, hWp⟩ := hB
                have hWq : W = Wp := by simpa using hWp
                clear hWp
                subst hWq
                have qq := HC.out W hB
                obtain ⟨q0, q1, q2⟩ := qq
                have qo := HO2.out W hB
                have qs : w3.heap.size ≤ W.heap.size := Nat.le_trans hle hB.size
                obtain rfl := (h0.out (by simp only [haf])).symm
                obtain ⟨mb, rfl, fmb⟩ := h23.out (by simp only [haf]) (by first | exact hun | simp only [haf])
                rw [if_pos (by simp [Region.wanted])]
                refine wp_append_own W _ _ 87 rfl w3.heap.size 4 i0 (.bool false) 1 1 Tryd.underlying87 hi hz0 hz1 hz2 rfl (by decide) lv M JV rfl qo ⟨mb, 0, none⟩ 1 1 [.bool c] rfl rfl (news_one1 fmb) (fun u hu => by simp at hu; subst hu; rfl) (by unfold maxLen; omega) (by omega) qs ?_
                intro v' w' hown' hgr _
                have hset := And.intro hown' hgr
                exact hK.out _ _ ⟨b0, b1, b2, b3, b4, b5, b6, b7, b8, b9, b10, b11, b12, b13, b14, b15, b16, b17, b18, b19, b20, b21, b22, b23, true, b25, lv, v28, v29, v30, v31, v32, v33, v34, v35, v36, v37, v38, v39, v40, v41, v42, v43, v44, v45, v46, v47, v48, v49, .slice (some ⟨mb, 0, none⟩) 1 1, v', v6, rfl, (by simp only [Act.put, List.setIfInBounds_toArray, List.set_cons_zero, List.set_cons_succ]), ⟨_, hB, by rw [if_pos rfl]; exact hset⟩, Lib.hid (fun _ => rfl), h1, h2, h3, h4, h5, h6, h7, h8, h9, h10, Lib.hid (fun _ hu => absurd (show false = true from hu.symm.trans (u19_18.out (u20_19.out (u21_20.out (u22_21.out (u23_22.out (by simp only [haf]))))))) (by decide)), h12, h13, h14, h15, h16, h17, Lib.hid (fun _ hu => absurd (show false = true from hu.symm.trans (u20_19.out (u21_20.out (u22_21.out (u23_22.out (by simp only [haf])))))) (by decide)), h19, h20, h21, h22, Lib.hid (fun _ hu => by cases hu), Lib.hid (fun hx => absurd (w25.out hx) (by decide)), Lib.hid ⟨(fun hf => absurd (show false = true from hf.symm.trans (by simp only [haf])) (by decide)), (fun hf => absurd (show false = true from hf.symm.trans (by simp only [haf])) (by decide))⟩, u2_1, u4_2, u4_3, u5_4, u7_5, u7_6, u8_7, u9_8, u10_9, u22_10, u18_11, u13_12, u14_13, u17_14, u16_15, u17_16, u18_17, u19_18, u20_19, u21_20, u22_21, u23_22, Lib.hid (fun _ => rfl), r25, x0_25⟩
              · -- operation 25
                replace hK := Lib.hid hK
                subst hun
                go_simp
                exact hK.out _ _ ⟨b0, b1, b2, b3, b4, b5, b6, b7, b8, b9, b10, b11, b12, b13, b14, b15, b16, b17, b18, b19, b20, b21, b22, b23, b24, true, v27, v28, v29, v30, v31, v32, v33, v34, v35, v36, v37, v38, v39, v40, v41, v42, v43, v44, v45, v46, v47, v48, v49, v50, v51, v51, rfl, (by simp only [Act.put, List.setIfInBounds_toArray, List.set_cons_zero, List.set_cons_succ]), hB, h0, h1, h2, h3, h4, h5, h6, h7, h8, h9, h10, h11, h12, h13, h14, h15, h16, h17, h18, h19, h20, h21, h22, h23, Lib.hid (fun _ => rfl), p, u2_1, u4_2, u4_3, u5_4, u7_5, u7_6, u8_7, u9_8, u10_9, u22_10, u18_11, u13_12, u14_13, u17_14, u16_15, u17_16, u18_17, u19_18, u20_19, u21_20, u22_21, u23_22, Lib.hid (fun _ => (by simp only [haf])), Lib.hid (fun hf => by cases hf), Lib.hid (fun hf => absurd (show false = true from hf.symm.trans (by simp only [haf])) (by decide))⟩
            intro L A W hI hr
            refine hI.elim fun b0 e0_ => e0_.elim fun b1 e1_ => e1_.elim fun b2 e2_ => e2_.elim fun b3 e3_ => e3_.elim fun b4 e4_ => e4_.elim fun b5 e5_ => e5_.elim fun b6 e6_ => e6_.elim fun b7 e7_ => e7_.elim fun b8 e8_ => e8_.elim fun b9 e9_ => e9_.elim fun b10 e10_ => e10_.elim fun b11 e11_ => e11_.elim fun b12 e12_ => e12_.elim fun b13 e13_ => e13_.elim fun b14 e14_ => e14_.elim fun b15 e15_ => e15_.elim fun b16 e16_ => e16_.elim fun b17 e17_ => e17_.elim fun b18 e18_ => e18_.elim fun b19 e19_ => e19_.elim fun b20 e20_ => e20_.elim fun b21 e21_ => e21_.elim fun b22 e22_ => e22_.elim fun b23 e23_ => e23_.elim fun b24 e24_ => e24_.elim fun b25 e25_ => e25_.elim fun v27 e26_ => e26_.elim fun v28 e27_ => e27_.elim fun v29 e28_ => e28_.elim fun v30 e29_ => e29_.elim fun v31 e30_ => e30_.elim fun v32 e31_ => e31_.elim fun v33 e32_ => e32_.elim fun v34 e33_ => e33_.elim fun v35 e34_ => e34_.elim fun v36 e35_ => e35_.elim fun v37 e36_ => e36_.elim fun v38 e37_ => e37_.elim fun v39 e38_ => e38_.elim fun v40 e39_ => e39_.elim fun v41 e40_ => e40_.elim fun v42 e41_ => e41_.elim fun v43 e42_ => e42_.elim fun v44 e43_ => e43_.elim fun v45 e44_ => e44_.elim fun v46 e45_ => e45_.elim fun v47 e46_ => e46_.elim fun v48 e47_ => e47_.elim fun v49 e48_ => e48_.elim fun v50 e49_ => e49_.elim fun v51 e50_ => e50_.elim fun v6 e51_ => e51_.elim fun hLq e52_ => e52_.elim fun hAq e53_ => e53_.elim fun hB e54_ => e54_.elim fun h0 e55_ => e55_.elim fun h1 e56_ => e56_.elim fun h2 e57_ => e57_.elim fun h3 e58_ => e58_.elim fun h4 e59_ => e59_.elim fun h5 e60_ => e60_.elim fun h6 e61_ => e61_.elim fun h7 e62_ => e62_.elim fun h8 e63_ => e63_.elim fun h9 e64_ => e64_.elim fun h10 e65_ => e65_.elim fun h11 e66_ => e66_.elim fun h12 e67_ => e67_.elim fun h13 e68_ => e68_.elim fun h14 e69_ => e69_.elim fun h15 e70_ => e70_.elim fun h16 e71_ => e71_.elim fun h17 e72_ => e72_.elim fun h18 e73_ => e73_.elim fun h19 e74_ => e74_.elim fun h20 e75_ => e75_.elim fun h21 e76_ => e76_.elim fun h22 e77_ => e77_.elim fun h23 e78_ => e78_.elim fun h25 e79_ => e79_.elim fun p e80_ => e80_.elim fun u2_1 e81_ => e81_.elim fun u4_2 e82_ => e82_.elim fun u4_3 e83_ => e83_.elim fun u5_4 e84_ => e84_.elim fun u7_5 e85_ => e85_.elim fun u7_6 e86_ => e86_.elim fun u8_7 e87_ => e87_.elim fun u9_8 e88_ => e88_.elim fun u10_9 e89_ => e89_.elim fun u22_10 e90_ => e90_.elim fun u18_11 e91_ => e91_.elim fun u13_12 e92_ => e92_.elim fun u14_13 e93_ => e93_.elim fun u17_14 e94_ => e94_.elim fun u16_15 e95_ => e95_.elim fun u17_16 e96_ => e96_.elim fun u18_17 e97_ => e97_.elim fun u19_18 e98_ => e98_.elim fun u20_19 e99_ => e99_.elim fun u21_20 e100_ => e100_.elim fun u22_21 e101_ => e101_.elim fun u23_22 e102_ => e102_.elim fun w25 e103_ => e103_.elim fun r25 x0_25 => ?_
            clear hI e0_ e1_ e2_ e3_ e4_ e5_ e6_ e7_ e8_ e9_ e10_ e11_ e12_ e13_ e14_ e15_ e16_ e17_ e18_ e19_ e20_ e21_ e22_ e23_ e24_ e25_ e26_ e27_ e28_ e29_ e30_ e31_ e32_ e33_ e34_ e35_ e36_ e37_ e38_ e39_ e40_ e41_ e42_ e43_ e44_ e45_ e46_ e47_ e48_ e49_ e50_ e51_ e52_ e53_ e54_ e55_ e56_ e57_ e58_ e59_ e60_ e61_ e62_ e63_ e64_ e65_ e66_ e67_ e68_ e69_ e70_ e71_ e72_ e73_ e74_ e75_ e76_ e77_ e78_ e79_ e80_ e81_ e82_ e83_ e84_ e85_ e86_ e87_ e88_ e89_ e90_ e91_ e92_ e93_ e94_ e95_ e96_ e97_ e98_ e99_ e100_ e101_ e102_ e103_
            subst hLq
            subst hAq
            have d0 := ready_done hr 0 _ rfl (by simp [Region.binds])
            simp at d0
            subst d0
            have d1 := ready_done hr 1 _ rfl (by simp [Region.binds])
            simp at d1
            subst d1
            have d2 := ready_done hr 2 _ rfl (by simp [Region.binds])
            simp at d2
            subst d2
            have d3 := ready_done hr 3 _ rfl (by simp [Region.binds])
            simp at d3
            subst d3
            have d4 := ready_done hr 4 _ rfl (by simp [Region.binds])
            simp at d4
            subst d4
            have d5 := ready_done hr 5 _ rfl (by simp [Region.binds])
            simp at d5
            subst d5
            have d6 := ready_done hr 6 _ rfl (by simp [Region.binds])
            simp at d6
            subst d6
            have d7 := ready_done hr 7 _ rfl (by simp [Region.binds])
            simp at d7
            subst d7
            have d8 := ready_done hr 8 _ rfl (by simp [Region.binds])
            simp at d8
            subst d8
            have d9 := ready_done hr 9 _ rfl (by simp [Region.binds])
            simp at d9
            subst d9
            have d10 := ready_done hr 10 _ rfl (by simp [Region.binds])
            simp at d10
            subst d10
            have d11 := ready_done hr 11 _ rfl (by simp [Region.binds])
            simp at d11
            subst d11
            have d12 := ready_done hr 12 _ rfl (by simp [Region.binds])
            simp at d12
            subst d12
            have d13 := ready_done hr 13 _ rfl (by simp [Region.binds])
            simp at d13
            subst d13
            have d14 := ready_done hr 14 _ rfl (by simp [Region.binds])
            simp at d14
            subst d14
            have d15 := ready_done hr 15 _ rfl (by simp [Region.binds])
            simp at d15
            subst d15
            have d16 := ready_done hr 16 _ rfl (by simp [Region.binds])
            simp at d16
            subst d16
            have d17 := ready_done hr 17 _ rfl (by simp [Region.binds])
            simp at d17
            subst d17
            have d18 := ready_done hr 18 _ rfl (by simp [Region.binds])
            simp at d18
            subst d18
            have d19 := ready_done hr 19 _ rfl (by simp [Region.binds])
            simp at d19
            subst d19
            have d20 := ready_done hr 20 _ rfl (by simp [Region.binds])
            simp at d20
            subst d20
            have d21 := ready_done hr 21 _ rfl (by simp [Region.binds])
            simp at d21
            subst d21
            have d22 := ready_done hr 22 _ rfl (by simp [Region.binds])
            simp at d22
            subst d22
            have d23 := ready_done hr 23 _ rfl (by simp [Region.binds])
            simp at d23
            subst d23
            have d24 := ready_done hr 24 _ rfl (by simp [Region.binds])
            simp at d24
            subst d24
            have d25 := ready_done hr 25 _ rfl (by simp [Region.binds])
            simp at d25
            subst d25
            obtain rfl := (h0.out rfl).symm
            obtain rfl := (h1.out rfl).symm
            obtain rfl := (h2.out rfl).symm
            obtain rfl := (h3.out rfl).symm
            obtain rfl := (h4.out rfl).symm
            obtain rfl := (h5.out rfl).symm
            obtain rfl := (h6.out rfl).symm
            obtain rfl := (h7.out rfl).symm
            obtain rfl := (h8.out rfl).symm
            obtain rfl := (h9.out rfl).symm
            obtain rfl := (h10.out rfl).symm
            obtain rfl := (h12.out rfl).symm
            obtain rfl := (h13.out rfl).symm
            obtain rfl := (h14.out rfl).symm
            obtain rfl := (h15.out rfl).symm
            obtain rfl := (h16.out rfl).symm
            obtain rfl := (h17.out rfl).symm
            obtain rfl := (h19.out rfl).symm
            obtain rfl := (h20.out rfl).symm
            obtain rfl := (h21.out rfl).symm
            obtain rfl := (h22.out rfl).symm
            obtain rfl := (h25.out rfl).symm
            obtain ⟨Wp, hB, hWp⟩ := hB
            rw [if_pos rfl] at hWp
            simp only [Act.put, List.setIfInBounds_toArray, List.set_cons_zero, List.set_cons_succ]
            clear hr h0 h1 h2 h3 h4 h5 h6 h7 h8 h9 h10 h11 h12 h13 h14 h15 h16 h17 h18 h19 h20 h21 h22 h23 h25 p u2_1 u4_2 u4_3 u5_4 u7_5 u7_6 u8_7 u9_8 u10_9 u22_10 u18_11 u13_12 u14_13 u17_14 u16_15 u17_16 u18_17 u19_18 u20_19 u21_20 u22_21 u23_22 w25 r25 x0_25
            obtain ⟨hown9, hgr9⟩ := hWp
            have HB9 : Hid (Below w3.heap.size w3 W) := (HB.out.trans (hB.mono HB.out.size)).grown hgr9 (Nat.le_trans hle hB.size) (fun k hk => HOlt.out k hk)
            have HO9 : Hid (W.ownsRow w3.heap.size 4 1 v51 (y * a + (x + 1)) (boolV (listF f a (y * a + (x + 1))))) := by
              show World.ownsRow _ _ _ _ _ _ _
              rw [show y * a + (x + 1) = M + 1 from by rw [← HM.out]; omega, HSN.out]
              exact hown9
            clear hown9 hgr9 hB HC CT HO2 kw1 kw2 kw3 kw4 kw5 kw6 kw7 kw8 kc
            go_wp2
            go_roundw
            case rel => exact ⟨x + 1, _, rfl, by omega, by go_num, HO9, HB9⟩
            case measure => simp [intOf]; omega
          · obtain rfl : x = a := by omega
            have e1 : y * x + x = (y + 1) * x := by rw [Nat.add_mul, Nat.one_mul]
            rw [e1] at HO
            clear e1
            go_wp2
            go_roundw
            case rel => exact ⟨y + 1, _, rfl, hlt, by go_num, HO, HB⟩
            case measure => simp [intOf]; omega
      · obtain rfl : y = n := by omega
        rw [Nat.mul_comm y a] at HO
        have h1 : 1 * 1 ≤ a * y := Nat.mul_le_mul hw1 hn1
        obtain ⟨g, cap2, rfl⟩ := Joins.ownsRow_form HO.out (by omega)
        have HBl : Hid (Bools wr g 0 (listF f a (a * y))) := own_bools HO.out (listF_len _ _ _)
        have hle3 := B3.out.size
        have HB9 := Lib.hid (B3.out.trans (HB.out.mono B3.out.size))
        clear HO h1
        go_wp2_with fail
        refine (CM.out _ _ _ HBl.out).mono ?_
        rintro e w4 ⟨g4, cap4, rfl, hown4, hb4⟩
        have hb5 := HB9.out.trans (hb4.mono HB9.out.size)
        have hp2 := KR.out _ hb5
        have hfr : w4.frozen? ⟨w.heap.size + 1, 0, none⟩ = false := free_of_one hp2
        have hc2 : w4.cell? ⟨w.heap.size + 1, 0, none⟩ = some (.slice none 0 0) := cell_of_one hp2
        have O2 := Lib.hid (own_set (u := .slice (some ⟨g4, 0, none⟩) pic.length cap4) hown4 hp2 (by decide))
        have P5 := Lib.hid hp2
        have B5 := Lib.hid (HB0.out.trans (hb5.mono HB0.out.size))
        have hs4 : w.heap.size ≤ wr.heap.size := Nat.le_trans HB0.out.size HB9.out.size
        clear hown4 hp2 hb4 hb5
        go_wp2_with fail
        refine bodyPost_ret (v := .tuple #[.agg #[.slice (some ⟨g4, 0, none⟩) pic.length cap4], .bool true]) (by simp [results, Tryd.results28, go_sem, cell_of_one (one_setCell P5.out)]) rfl ⟨_, _, _, rfl, Joins.ownsRow_le O2.out hs4, B5.out.setCell (by show w.heap.size ≤ w.heap.size + 1; omega) _⟩
end Go.Proofs.YtnmnlbgialolhaaDoor
