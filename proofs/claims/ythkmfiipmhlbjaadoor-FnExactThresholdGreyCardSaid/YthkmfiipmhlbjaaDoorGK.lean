/- Contracts of single functions, and plain lemmas, on which the exact laws of this seat rest; each holds under the conditions that it states. -/
import Derived.Test.YthkmfiipmhlbjaaDoorGI
import Derived.Test.YthkmfiipmhlbjaaDoorPb
namespace Go.Proofs.YthkmfiipmhlbjaaDoor
set_option linter.unusedVariables false
set_option linter.unusedSimpArgs false
open Go.RowKit
attribute [local go_sem] Oper.semAt_some

set_option maxHeartbeats 4000000 in
set_option maxRecDepth 100000 in
theorem l07Threshold_any {m : Int} (pb : Nat) (v : Value) (gs : List (List Int)) (lv : Int) (w : World) (V : VG m gs) (hp : w.cell? ⟨pb, 0, none⟩ = some v) (hv : SlG w v gs) :
    Calls Tryd.prog 47 #[.pointer (some ⟨pb, 0, none⟩), .int .i64 lv] w (TookPic w (mkPic (rowF gs 0).length gs.length (thF gs lv))) := by
  obtain ⟨j0, hj, hy0, hy1, hy2⟩ := info_parts Tryd.info4
  have hb0 := Joins.below_alloc1 w (.cells #[.slice none 0 0] 33)
  have hr0 := heap_alloc_last w (.cells #[.slice none 0 0] 33)
  obtain ⟨W0, hW0⟩ : ∃ W0, w.alloc (.cells #[.slice none 0 0] 33) = W0 := ⟨_, rfl⟩
  rw [hW0] at hb0 hr0
  have hs0 : W0.heap.size = w.heap.size + 1 := by rw [← hW0]; simp
  have HW0 := Lib.hid hW0
  have HB0 := Lib.hid hb0
  have KR : Hid (∀ W, Below W0.heap.size W0 W → W.heap[w.heap.size]? = some (.cells #[.slice none 0 0] 33 (0, 0))) := fun W hb => (hb.block _ (Array.getElem?_eq_some_iff.1 hr0).1).trans hr0
  have HP : Hid (∀ W, Below W0.heap.size W0 W → W.cell? ⟨pb, 0, none⟩ = some v ∧ SlG W v gs) := fun W hb => ⟨cell_kept (hb0.trans (hb.mono hb0.size)) hp, hv.below (hb0.trans (hb.mono hb0.size))⟩
  have HV := Lib.hid V
  have CL : Hid (∀ W, Below W0.heap.size W0 W → Calls Tryd.prog 56 #[v] W (fun e w' => ∃ g cap, e = .returned (.slice (some ⟨g, 0, none⟩) (flG gs gs.length).length cap) ∧ OwnN w' W.heap.size (.slice (some ⟨g, 0, none⟩) (flG gs gs.length).length cap) (flG gs gs.length) ∧ Below W.heap.size W w')) := fun W hb => l07List_any v gs W V (HP.out W hb).2
  have CW : Hid (∀ W, Below W0.heap.size W0 W → Calls Tryd.prog 58 #[.pointer (some ⟨pb, 0, none⟩)] W (fun e w' => e = .returned (.int .i64 (rowF gs 0).length) ∧ W = w')) := fun W hb => l07Width_any pb v gs W V (HP.out W hb).1 (HP.out W hb).2
  have hlen := flG_len V gs.length (Nat.le_refl _)
  have CM : Hid (∀ g cap W, Bools W g 0 (thB (flG gs gs.length) lv ((rowF gs 0).length * gs.length)) → Calls Tryd.prog 100 #[.int .i64 (rowF gs 0).length, .slice (some ⟨g, 0, none⟩) ((rowF gs 0).length * gs.length) cap] W (TookPic W (mkPic (rowF gs 0).length gs.length (thF gs lv)))) := fun g cap W hB => by
    have := l01Make_any g 0 cap (rowF gs 0).length gs.length _ W ⟨V.w1, V.w16⟩ ⟨V.n1, V.n16⟩ (thB_len _ _ _) hB
    rwa [thB_pic V lv] at this
  have hN : (rowF gs 0).length * gs.length ≤ 16 * 16 := Nat.mul_le_mul V.w16 V.n16
  have hN1 : 1 ≤ (rowF gs 0).length * gs.length := Nat.mul_pos V.w1 V.n1
  rw [Nat.mul_comm] at hlen
  obtain ⟨N, hNN⟩ : ∃ N, (rowF gs 0).length * gs.length = N := ⟨_, rfl⟩
  rw [hNN] at CM hlen hN hN1
  obtain ⟨L, hL⟩ : ∃ L, flG gs gs.length = L := ⟨_, rfl⟩
  rw [hL] at CM CL hlen
  have HLn := Lib.hid hlen
  obtain ⟨pic, hpic⟩ : ∃ p, mkPic (rowF gs 0).length gs.length (thF gs lv) = p := ⟨_, rfl⟩
  rw [hpic] at CM ⊢
  unfold TookPic at CM
  have hc0 := (HP.out W0 (Below.refl _ _)).1
  have hc1 : (W0.alloc (.cells #[] 4)).cell? ⟨pb, 0, none⟩ = some v := cell_kept (Joins.below_alloc1 _ _) hc0
  have hb1 : Below W0.heap.size W0 (W0.alloc (.cells #[] 4)) := Joins.below_alloc1 _ _
  have ho1 : (W0.alloc (.cells #[] 4)).ownsRow W0.heap.size 4 1 (.slice (some ⟨W0.heap.size, 0, none⟩) 0 0) 0 [] := World.ownsRow_lit (base := W0.heap.size) (e := 4) (size := 1) W0 #[] 0 (Nat.le_refl _) (by unfold maxLen; omega) rfl
  obtain ⟨W1, hW1⟩ : ∃ W1, W0.alloc (.cells #[] 4) = W1 := ⟨_, rfl⟩
  rw [hW1] at hc1 hb1 ho1
  have HW1 := Lib.hid hW1
  have HB1 := Lib.hid hb1
  have HO1 := Lib.hid ho1
  have hs0' : w.heap.size ≤ W0.heap.size := by omega
  clear hb0 hr0 hW0 hp hv V hL hNN hpic hW1 hb1 ho1 hlen hs0
  go_enter Tryd.func47, Tryd.ntmps47
  go_upto_region 1 with fail
  rw [HW0.out]
  go_upto_region 2 with fail
  rw [HW1.out]
  go_wp2_with fail
  refine (CL.out _ HB1.out).mono ?_
  rintro e w2 ⟨gl, capl, rfl, hown, hb2⟩
  obtain ⟨cur, oo, hbk, hcur⟩ := hown.blk
  have B2 := Lib.hid (HB1.out.trans (hb2.mono HB1.out.size))
  have O2 := Lib.hid (own_below HO1.out hb2)
  have K2 := Lib.hid hbk
  have HCur := Lib.hid hcur
  clear hown hbk hcur hb2 hc0 hc1
  rw [HLn.out] at HCur
  rw [HLn.out]
  go_wp2
  go_loopw [5, 16] (fun bv iv wr => ∃ k : Nat, k ≤ N ∧ iv = .int .i64 k ∧ (∃ ao n c, bv = .slice ao n c) ∧ wr.ownsRow W0.heap.size 4 1 bv k (boolV (thB L lv k)) ∧ wr.heap[gl]? = some (.cells cur 2 oo) ∧ Below W0.heap.size W0 wr) (fun _ iv _ => N - (intOf iv).toNat)
  case atStart => exact ⟨0, Nat.zero_le _, rfl, ⟨_, _, _, rfl⟩, O2.out, K2.out, B2.out⟩
  case round =>
    clear O2 K2 B2
    obtain ⟨k, hk, rfl, ⟨ao, nn, cc, rfl⟩, hown, hbk, hbel⟩ := hrel
    have hs1 := hbel.size
    by_cases hlt : k < N
    · have kkN : (k : Int) < (N : Int) := by omega
      have hcell : wr.cell? ⟨gl, k, none⟩ = some (.int .i64 (L.getD k 0)) := by
        rw [Joins.cell_of_block hbk k]; exact HCur.out k hlt
      obtain ⟨x, hx⟩ : ∃ x, L.getD k 0 = x := ⟨_, rfl⟩
      rw [hx] at hcell
      have HX := Lib.hid hx
      have HO := Lib.hid hown
      have HBk := Lib.hid hbk
      have HB := Lib.hid hbel
      clear hown hbk hbel hx
      by_cases hle : lv ≤ x
      · have hle2 : lv ≤ x := hle
        have HSn : Hid (boolV (thB L lv (k + 1)) = boolV (thB L lv k) ++ [.bool true]) := by show _ = _; rw [thB_snoc, HX.out, decide_eq_true hle]
        clear HX
        go_wp2_with (at_builtin; refine wpList_append_own _ rfl _ _ 88 rfl W0.heap.size 4 j0 (.bool false) 1 1 Tryd.underlying88 hj hy0 hy1 hy2 rfl (by decide) _ _ _ rfl (World.ownsRow.alloc HO.out _) ⟨wr.heap.size, 0, none⟩ 1 1 [.bool true] rfl rfl (cell_one_new _ _ _) (by intro u hu; simp at hu; subst hu; rfl) (by unfold maxLen; omega) (by omega) (by simp; omega) ?_)
        intro v' w5 hown' hgr _
        have o1 := World.ownsRow.alloc HO.out (.cells #[.bool true] 4)
        have hbk : (wr.alloc (.cells #[.bool true] 4)).heap[gl]? = some (.cells cur 2 oo) := (Below.heap_alloc _ _ _ (Array.getElem?_eq_some_iff.1 HBk.out).1).trans HBk.out
        have B5 : Hid (Below W0.heap.size W0 w5) := (HB.out.alloc hs1 _).grown hgr (by simp; omega) (fun k hk => (o1.lt k hk).1)
        have K5 : Hid (w5.heap[gl]? = some (.cells cur 2 oo)) := (hgr.block gl (Array.getElem?_eq_some_iff.1 hbk).1 (fun e => own_ne2 o1 hbk (by decide) e.symm)).trans hbk
        have O5 : Hid (w5.ownsRow W0.heap.size 4 1 v' (k + 1) (boolV (thB L lv (k + 1)))) := by
          show World.ownsRow _ _ _ _ _ _ _
          rw [HSn.out]
          exact hown'
        obtain ⟨g', c', rfl⟩ := Joins.ownsRow_form hown' (by omega)
        clear hown' hgr o1 hbk
        go_wp2
        go_roundw
        case rel => exact ⟨k + 1, by omega, by go_num, ⟨_, _, _, rfl⟩, O5.out, K5.out, B5.out⟩
        case measure => simp [intOf]; omega
      · have hle2 : ¬ lv ≤ x := hle
        have HSn : Hid (boolV (thB L lv (k + 1)) = boolV (thB L lv k) ++ [.bool false]) := by show _ = _; rw [thB_snoc, HX.out, decide_eq_false hle]
        clear HX
        go_wp2_with (at_builtin; refine wpList_append_own _ rfl _ _ 88 rfl W0.heap.size 4 j0 (.bool false) 1 1 Tryd.underlying88 hj hy0 hy1 hy2 rfl (by decide) _ _ _ rfl (World.ownsRow.alloc HO.out _) ⟨wr.heap.size, 0, none⟩ 1 1 [.bool false] rfl rfl (cell_one_new _ _ _) (by intro u hu; simp at hu; subst hu; rfl) (by unfold maxLen; omega) (by omega) (by simp; omega) ?_)
        intro v' w5 hown' hgr _
        have o1 := World.ownsRow.alloc HO.out (.cells #[.bool false] 4)
        have hbk : (wr.alloc (.cells #[.bool false] 4)).heap[gl]? = some (.cells cur 2 oo) := (Below.heap_alloc _ _ _ (Array.getElem?_eq_some_iff.1 HBk.out).1).trans HBk.out
        have B5 : Hid (Below W0.heap.size W0 w5) := (HB.out.alloc hs1 _).grown hgr (by simp; omega) (fun k hk => (o1.lt k hk).1)
        have K5 : Hid (w5.heap[gl]? = some (.cells cur 2 oo)) := (hgr.block gl (Array.getElem?_eq_some_iff.1 hbk).1 (fun e => own_ne2 o1 hbk (by decide) e.symm)).trans hbk
        have O5 : Hid (w5.ownsRow W0.heap.size 4 1 v' (k + 1) (boolV (thB L lv (k + 1)))) := by
          show World.ownsRow _ _ _ _ _ _ _
          rw [HSn.out]
          exact hown'
        obtain ⟨g', c', rfl⟩ := Joins.ownsRow_form hown' (by omega)
        clear hown' hgr o1 hbk
        go_wp2
        go_roundw
        case rel => exact ⟨k + 1, by omega, by go_num, ⟨_, _, _, rfl⟩, O5.out, K5.out, B5.out⟩
        case measure => simp [intOf]; omega
    · obtain rfl : k = N := by omega
      obtain ⟨g', c', e'⟩ : ∃ g c, Value.slice ao nn cc = .slice (some ⟨g, 0, none⟩) k c := by
        rcases Joins.ownsRow_forms hown with ⟨e1, h0⟩ | ⟨g, c, e1⟩
        · omega
        · exact ⟨g, c, e1⟩
      injection e' with e1 e2 e3
      subst e1 e2 e3
      have hB := own_bools hown (thB_len _ _ _)
      have HBo := Lib.hid hB
      have HB := Lib.hid hbel
      clear hown hbk hbel hB
      go_wp2_with fail
      refine (CW.out _ HB.out).mono ?_
      rintro e w' ⟨rfl, rfl⟩
      go_wp2_with fail
      refine (CM.out _ _ _ HBo.out).mono ?_
      rintro e w7 ⟨g7, cap7, rfl, hown7, hb7⟩
      have hb8 := HB.out.trans (hb7.mono HB.out.size)
      have hp7 := KR.out _ hb8
      have hfr : w7.frozen? ⟨w.heap.size, 0, none⟩ = false := free_of_one hp7
      have hc2 : w7.cell? ⟨w.heap.size, 0, none⟩ = some (.slice none 0 0) := cell_of_one hp7
      have O7 := Lib.hid (own_set (u := .slice (some ⟨g7, 0, none⟩) pic.length cap7) hown7 hp7 (by decide))
      have P7 := Lib.hid (one_setCell (u := .slice (some ⟨g7, 0, none⟩) pic.length cap7) hp7)
      have B7 := Lib.hid (HB0.out.trans (hb8.mono HB0.out.size))
      have hs7 : w.heap.size ≤ wr.heap.size := by omega
      clear hown7 hb7 hb8 hp7
      go_wp2_with fail
      exact bodyPost_ret (results_cell1 (p := 4) (ty := 33) Tryd.results47 _ _ w.heap.size 33 #[.slice (some ⟨g7, 0, none⟩) pic.length cap7] (0, 0) _ rfl P7.out Tryd.underlying33 rfl (by kernel_rfl)) rfl ⟨g7, cap7, rfl, Joins.ownsRow_le O7.out hs7, B7.out.setCell (p := ⟨w.heap.size, 0, none⟩) (Nat.le_refl _) _⟩
end Go.Proofs.YthkmfiipmhlbjaaDoor

/- Contracts of single functions, and plain lemmas, on which the exact laws of this seat rest; each holds under the conditions that it states. -/
namespace Go.Proofs.YthkmfiipmhlbjaaDoor
set_option linter.unusedVariables false
set_option linter.unusedSimpArgs false
open Go.RowKit
attribute [local go_sem] Oper.semAt_some

def thOk (gs : List (List Int)) (lv : Int) : Bool := vG 99 gs && inB lv 0 100
def thP (gs : List (List Int)) (lv : Int) : List ByteArray := if thOk gs lv then mkPic (rowF gs 0).length gs.length (thF gs lv) else []
theorem thP_no {gs : List (List Int)} {lv : Int} (h : thOk gs lv = false) : thP gs lv = [] := by unfold thP; rw [h]; rfl
theorem thP_yes {gs : List (List Int)} {lv : Int} (h : thOk gs lv = true) : thP gs lv = mkPic (rowF gs 0).length gs.length (thF gs lv) := by unfold thP; rw [if_pos h]
theorem thP_len (gs : List (List Int)) (lv : Int) : (thP gs lv).length ≤ 16 := by
  cases h : thOk gs lv with
  | false => rw [thP_no h]; simp
  | true =>
    rw [thP_yes h, mkPic_len]
    unfold thOk at h
    exact (vg_of (Bool.and_eq_true_iff.1 h).1).n16

set_option maxHeartbeats 4000000 in
set_option maxRecDepth 100000 in
theorem spec_Threshold (u : Value) (gs : List (List Int)) (lv : Int) (w : World) (hN : gs.length ≤ 1048576) (hf : ∀ i, i < gs.length → (rowF gs i).length ≤ 1048576) (hu : SlG w u gs) :
    Calls Tryd.prog 16 #[.agg #[u], .int .i64 lv] w (SaysPic (thP gs lv) (thOk gs lv) w) := by
  obtain ⟨W0, hW0⟩ : ∃ W0, (w.alloc (.cells #[u] 27)).alloc (.cells #[.slice none 0 0] 33) = W0 := ⟨_, rfl⟩
  have hs0 : W0.heap.size = w.heap.size + 1 + 1 := by rw [← hW0]; simp
  have hb0 : Below w.heap.size w W0 := by rw [← hW0]; exact Joins.below_alloc2 _ _ _
  have p0 : W0.heap[w.heap.size]? = some (.cells #[u] 27 (0, 0)) := by
    rw [← hW0, Below.heap_alloc _ _ _ (by first | (simp; done) | (simp; omega))]; exact heap_alloc_last w _
  have p1 : W0.heap[w.heap.size + 1]? = some (.cells #[.slice none 0 0] 33 (0, 0)) := by
    rw [← hW0]
    exact heap_alloc2_new _ _ _
  have HW := Lib.hid hW0
  have HB0 := Lib.hid hb0
  have KR : Hid (∀ W, Below W0.heap.size W0 W → W.heap[w.heap.size + 1]? = some (.cells #[.slice none 0 0] 33 (0, 0))) := fun W hb => (hb.block _ (by omega)).trans p1
  have CL := Lib.hid (l07Is_any w.heap.size u gs W0 (cell_of_one p0) hN hf (hu.below hb0))
  have CIn := Lib.hid (fun W => l00In_any lv 0 100 W)
  cases hok : vG 99 gs with
  | false =>
    have hno : thOk gs lv = false := by unfold thOk; rw [hok]; rfl
    have e1 : Hid (thP gs lv = []) := thP_no hno
    rw [hok] at CL
    rw [e1.out, hno]
    clear hok e1 hno hu hN hf p0 p1 hW0 hb0 hs0 CIn
    go_enter Tryd.func16, Tryd.ntmps16
    go_wp2_with fail
    rw [HW.out]
    refine CL.out.mono ?_
    rintro e w1 ⟨rfl, hb1⟩
    have hp1 := KR.out _ hb1
    have hfr : w1.frozen? ⟨w.heap.size + 1, 0, none⟩ = false := free_of_one hp1
    have hc2 : w1.cell? ⟨w.heap.size + 1, 0, none⟩ = some (.slice none 0 0) := cell_of_one hp1
    have B1 : Hid (Below w.heap.size w w1) := HB0.out.trans (hb1.mono HB0.out.size)
    have P1 := Lib.hid hp1
    clear hb1 hp1
    go_wp2_with fail
    refine bodyPost_ret (v := .tuple #[.agg #[.slice none 0 0], .bool false]) (by simp [results, Tryd.results16, go_sem, cell_of_one (one_setCell P1.out)]) rfl ⟨_, _, _, rfl, World.ownsRow_nil _ _ _ _, B1.out.setCell (by show w.heap.size ≤ w.heap.size + 1; omega) _⟩
  | true =>
    rw [hok] at CL
    cases hin : inB lv 0 100 with
    | false =>
      have hno : thOk gs lv = false := by unfold thOk; rw [hok, hin]; rfl
      have e1 : Hid (thP gs lv = []) := thP_no hno
      rw [hin] at CIn
      rw [e1.out, hno]
      clear hok hin e1 hno hu hN hf p0 p1 hW0 hb0 hs0
      go_enter Tryd.func16, Tryd.ntmps16
      go_wp2_with fail
      rw [HW.out]
      refine CL.out.mono ?_
      rintro e w1 ⟨rfl, hb1⟩
      have HB1 := Lib.hid hb1
      clear hb1
      go_wp2_with fail
      refine (CIn.out _).mono ?_
      rintro e w' ⟨rfl, rfl⟩
      have hb1 := HB1.out
      have hp1 := KR.out _ hb1
      have hfr : w1.frozen? ⟨w.heap.size + 1, 0, none⟩ = false := free_of_one hp1
      have hc2 : w1.cell? ⟨w.heap.size + 1, 0, none⟩ = some (.slice none 0 0) := cell_of_one hp1
      have B1 : Hid (Below w.heap.size w w1) := HB0.out.trans (hb1.mono HB0.out.size)
      have P1 := Lib.hid hp1
      clear hb1 hp1
      go_wp2_with fail
      refine bodyPost_ret (v := .tuple #[.agg #[.slice none 0 0], .bool false]) (by simp [results, Tryd.results16, go_sem, cell_of_one (one_setCell P1.out)]) rfl ⟨_, _, _, rfl, World.ownsRow_nil _ _ _ _, B1.out.setCell (by show w.heap.size ≤ w.heap.size + 1; omega) _⟩
    | true =>
      have hyes : thOk gs lv = true := by unfold thOk; rw [hok, hin]; rfl
      have e1 : Hid (thP gs lv = mkPic (rowF gs 0).length gs.length (thF gs lv)) := thP_yes hyes
      rw [hin] at CIn
      have CR : Hid (∀ W, Below W0.heap.size W0 W → Calls Tryd.prog 47 #[.pointer (some ⟨w.heap.size, 0, none⟩), .int .i64 lv] W (TookPic W (mkPic (rowF gs 0).length gs.length (thF gs lv)))) := fun W hb =>
        l07Threshold_any w.heap.size u gs lv W (vg_of hok) (cell_of_one ((hb.block _ (by omega)).trans p0)) ((hu.below hb0).below hb)
      rw [e1.out, hyes]
      obtain ⟨pic, hpic⟩ : ∃ p, mkPic (rowF gs 0).length gs.length (thF gs lv) = p := ⟨_, rfl⟩
      rw [hpic] at CR ⊢
      unfold TookPic at CR
      clear hok hin e1 hyes hu hN hf p0 p1 hW0 hb0 hs0 hpic
      go_enter Tryd.func16, Tryd.ntmps16
      go_wp2_with fail
      rw [HW.out]
      refine CL.out.mono ?_
      rintro e w1 ⟨rfl, hb1⟩
      have HB1 := Lib.hid hb1
      clear hb1
      go_wp2_with fail
      refine (CIn.out _).mono ?_
      rintro e w' ⟨rfl, rfl⟩
      go_wp2_with fail
      refine (CR.out _ HB1.out).mono ?_
      rintro e w5 ⟨g4, cap4, rfl, hown4, hb4⟩
      have hb5 := HB1.out.trans (hb4.mono HB1.out.size)
      have hp2 := KR.out _ hb5
      have hfr : w5.frozen? ⟨w.heap.size + 1, 0, none⟩ = false := free_of_one hp2
      have hc2 : w5.cell? ⟨w.heap.size + 1, 0, none⟩ = some (.slice none 0 0) := cell_of_one hp2
      have O2 := Lib.hid (own_set (u := .slice (some ⟨g4, 0, none⟩) pic.length cap4) hown4 hp2 (by decide))
      have P5 := Lib.hid hp2
      have B5 := Lib.hid (HB0.out.trans (hb5.mono HB0.out.size))
      have hs4 : w.heap.size ≤ w1.heap.size := Nat.le_trans HB0.out.size HB1.out.size
      clear hown4 hp2 hb4 hb5
      go_wp2_with fail
      refine bodyPost_ret (v := .tuple #[.agg #[.slice (some ⟨g4, 0, none⟩) pic.length cap4], .bool true]) (by simp [results, Tryd.results16, go_sem, cell_of_one (one_setCell P5.out)]) rfl ⟨_, _, _, rfl, Joins.ownsRow_le O2.out hs4, B5.out.setCell (by show w.heap.size ≤ w.heap.size + 1; omega) _⟩
end Go.Proofs.YthkmfiipmhlbjaaDoor
