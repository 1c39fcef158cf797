/- Contracts of single functions, and plain lemmas, on which the exact laws of this seat rest; each holds under the conditions that it states. -/
import Derived.Test.YtenbhnfajjknkaaDoorL14
import Derived.Test.YtenbhnfajjknkaaDoorPb
import Derived.Test.YtenbhnfajjknkaaDoorAi
import Derived.Test.YtenbhnfajjknkaaDoorCc
import Derived.Test.YtenbhnfajjknkaaDoorI1
namespace Go.Proofs.YtenbhnfajjknkaaDoor
set_option linter.unusedVariables false
open Go.RowKit

/-- a row of one's own has room for what it holds -/
theorem own_cap {W : World} {base s n : Nat} {e : TypeId} {v : Value} {xs : List Value} (h : W.ownsRow base e s v n xs) : ∀ ao m c, v = .slice ao m c → m ≤ c := by
  intro ao m c hv
  rcases h.2 with ⟨rfl, rfl⟩ | ⟨g, cap, cur, rfl, _, _, hc, _⟩
  · cases hv; exact Nat.le_refl _
  · cases hv; exact hc
theorem pxP_len (k : Nat) (ss : List ByteArray) (xs : List (Int × Int)) : (pxP k ss xs).length ≤ 16 := by
  cases h : pxOk ss xs with
  | false => rw [pxP_no h]; simp
  | true =>
    rw [pxP_yes h]
    unfold pxOk at h
    rw [Bool.and_eq_true] at h
    have V := vp_of h.1
    unfold mkPic
    simpa using V.n16
/-- both sides say the same of a picture and an element -/
theorem both_Dilate (ss : List ByteArray) (xs : List (Int × Int)) (hN : ss.length ≤ maxLen) (hz : ∀ s ∈ ss, s.size ≤ maxLen) (hM : xs.length ≤ 1048576) (hwf : ∀ p ∈ xs, (Lit.int .i64 p.1).wf = true ∧ (Lit.int .i64 p.2).wf = true) : ∃ (P : List ByteArray) (ok : Bool), P.length ≤ 16 ∧
    (∀ u v W, Sl W u ss → SlS W v xs → Calls Tryd.prog 13 #[.agg #[u], .agg #[v]] W (SaysPic P ok W)) ∧
    (∀ u v W, Sl W u ss → SlS W v xs → (∀ ao n c, v = .slice ao n c → n ≤ c) → ErrLen W → Calls Tryd.prog 16 #[.agg #[u], .agg #[v]] W (SaysPic P ok W)) :=
  ⟨pxP 0 ss xs, pxOk ss xs, pxP_len _ _ _, fun u v W hu hv => spec_Dilate u v ss xs W hN hz hu hM hv, fun u v W hu hv hc he => impl_Dilate u v ss xs W hN hz hu hM hwf hv hc he⟩
/-- both sides say the same of a picture and an element -/
theorem both_Erode (ss : List ByteArray) (xs : List (Int × Int)) (hN : ss.length ≤ maxLen) (hz : ∀ s ∈ ss, s.size ≤ maxLen) (hM : xs.length ≤ 1048576) (hwf : ∀ p ∈ xs, (Lit.int .i64 p.1).wf = true ∧ (Lit.int .i64 p.2).wf = true) : ∃ (P : List ByteArray) (ok : Bool), P.length ≤ 16 ∧
    (∀ u v W, Sl W u ss → SlS W v xs → Calls Tryd.prog 22 #[.agg #[u], .agg #[v]] W (SaysPic P ok W)) ∧
    (∀ u v W, Sl W u ss → SlS W v xs → (∀ ao n c, v = .slice ao n c → n ≤ c) → ErrLen W → Calls Tryd.prog 23 #[.agg #[u], .agg #[v]] W (SaysPic P ok W)) :=
  ⟨pxP 1 ss xs, pxOk ss xs, pxP_len _ _ _, fun u v W hu hv => spec_Erode u v ss xs W hN hz hu hM hv, fun u v W hu hv hc he => impl_Erode u v ss xs W hN hz hu hM hwf hv hc he⟩
/-- both sides say the same of a picture and an element -/
theorem both_Open (ss : List ByteArray) (xs : List (Int × Int)) (hN : ss.length ≤ maxLen) (hz : ∀ s ∈ ss, s.size ≤ maxLen) (hM : xs.length ≤ 1048576) (hwf : ∀ p ∈ xs, (Lit.int .i64 p.1).wf = true ∧ (Lit.int .i64 p.2).wf = true) : ∃ (P : List ByteArray) (ok : Bool), P.length ≤ 16 ∧
    (∀ u v W, Sl W u ss → SlS W v xs → Calls Tryd.prog 24 #[.agg #[u], .agg #[v]] W (SaysPic P ok W)) ∧
    (∀ u v W, Sl W u ss → SlS W v xs → (∀ ao n c, v = .slice ao n c → n ≤ c) → ErrLen W → Calls Tryd.prog 25 #[.agg #[u], .agg #[v]] W (SaysPic P ok W)) :=
  ⟨pxP 2 ss xs, pxOk ss xs, pxP_len _ _ _, fun u v W hu hv => spec_Open u v ss xs W hN hz hu hM hv, fun u v W hu hv hc he => impl_Open u v ss xs W hN hz hu hM hwf hv hc he⟩
/-- both sides say the same of a picture and an element -/
theorem both_Close (ss : List ByteArray) (xs : List (Int × Int)) (hN : ss.length ≤ maxLen) (hz : ∀ s ∈ ss, s.size ≤ maxLen) (hM : xs.length ≤ 1048576) (hwf : ∀ p ∈ xs, (Lit.int .i64 p.1).wf = true ∧ (Lit.int .i64 p.2).wf = true) : ∃ (P : List ByteArray) (ok : Bool), P.length ≤ 16 ∧
    (∀ u v W, Sl W u ss → SlS W v xs → Calls Tryd.prog 26 #[.agg #[u], .agg #[v]] W (SaysPic P ok W)) ∧
    (∀ u v W, Sl W u ss → SlS W v xs → (∀ ao n c, v = .slice ao n c → n ≤ c) → ErrLen W → Calls Tryd.prog 27 #[.agg #[u], .agg #[v]] W (SaysPic P ok W)) :=
  ⟨pxP 3 ss xs, pxOk ss xs, pxP_len _ _ _, fun u v W hu hv => spec_Close u v ss xs W hN hz hu hM hv, fun u v W hu hv hc he => impl_Close u v ss xs W hN hz hu hM hwf hv hc he⟩
end Go.Proofs.YtenbhnfajjknkaaDoor

/- Contracts of single functions, and plain lemmas, on which the exact laws of this seat rest; each holds under the conditions that it states. -/
namespace Go.Proofs.YtenbhnfajjknkaaDoor
set_option linter.unusedVariables false
set_option linter.unusedSimpArgs false
open Go.RowKit

/-! ### a picture that is made of a function -/
theorem rowOf_size (f : Nat → Bool) (n : Nat) : (rowOf f n).size = n := by simp [rowOf, ByteArray.size, mkRow]
theorem rowOf_get (f : Nat → Bool) (n x : Nat) (h : x < (rowOf f n).size) : (rowOf f n)[x]'h = if f x = true then 35 else 46 := by
  have hx : x < n := by rwa [rowOf_size] at h
  have : (rowOf f n)[x]'h = (mkRow f n)[x]'(by rw [mkRow_len]; exact hx) := by
    simp [rowOf, ByteArray.getElem_eq_getElem_data]
  rw [this]
  simp [mkRow]
theorem mkPic_getD (wd h : Nat) (f : Nat → Nat → Bool) {y : Nat} (hy : y < h) : (mkPic wd h f).getD y ByteArray.empty = rowOf (f y) wd := by
  simp [mkPic, List.getD, hy]
theorem mkPic_row0 (wd h : Nat) (f : Nat → Nat → Bool) (hh : 1 ≤ h) : (row0 (mkPic wd h f)).size = wd := by
  show ((mkPic wd h f).getD 0 ByteArray.empty).size = wd
  rw [mkPic_getD wd h f (by omega), rowOf_size]
theorem mkPic_pix (wd h : Nat) (f : Nat → Nat → Bool) {y x : Nat} (hy : y < h) (hx : x < wd) : pixF (mkPic wd h f) y x = f y x := by
  unfold pixF
  rw [mkPic_getD wd h f hy, blackAt_eq _ _ (by rw [rowOf_size]; exact hx), rowOf_get]
  cases f y x <;> rfl
theorem mkPic_valid (wd h : Nat) (f : Nat → Nat → Bool) (hw : 1 ≤ wd ∧ wd ≤ 16) (hh : 1 ≤ h ∧ h ≤ 16) : validB (mkPic wd h f) = true := by
  unfold validB
  simp only [Bool.and_eq_true, decide_eq_true_eq, mkPic_len, mkPic_row0 wd h f hh.1]
  refine ⟨⟨⟨⟨hh.1, hh.2⟩, hw.1⟩, hw.2⟩, ?_⟩
  rw [List.all_eq_true]
  intro s hs
  obtain ⟨y, hy, rfl⟩ := List.mem_iff_getElem.1 hs
  rw [mkPic_len] at hy
  have e : (mkPic wd h f)[y] = rowOf (f y) wd := by simp [mkPic]
  rw [e]
  unfold rowB
  simp only [Bool.and_eq_true, decide_eq_true_eq]
  refine ⟨rowOf_size _ _, ?_⟩
  rw [List.all_eq_true]
  intro c hc
  have hc' : c ∈ mkRow (f y) wd := by simpa [rowOf] using hc
  obtain ⟨x, hx, rfl⟩ := List.mem_iff_getElem.1 hc'
  simp only [mkRow, List.getElem_map, List.getElem_range]
  cases f y x <;> decide
end Go.Proofs.YtenbhnfajjknkaaDoor

/- Contracts of single functions, and plain lemmas, on which the exact laws of this seat rest; each holds under the conditions that it states. -/
namespace Go.Proofs.YtenbhnfajjknkaaDoor
set_option linter.unusedVariables false
set_option linter.unusedSimpArgs false
open Go.RowKit

/-- how many pixels the square of this side leaves -/
def szN (ss : List ByteArray) (k : Nat) : Int := cbV (pxP 2 ss (elL (sqF k)))
def szL (ss : List ByteArray) (n : Nat) : List Int := (List.range n).map fun j => szN ss (j + 1)
def szV (ss : List ByteArray) : List Int := if validB ss then szL ss 5 else []
theorem szL_len (ss : List ByteArray) (n : Nat) : (szL ss n).length = n := by simp [szL]
theorem szL_snoc (ss : List ByteArray) (n : Nat) : numsV (szL ss (n + 1)) = numsV (szL ss n) ++ [.int .i64 (szN ss (n + 1))] := by
  simp [szL, numsV, List.range_succ]
theorem szV_len (ss : List ByteArray) : (szV ss).length ≤ 5 := by
  unfold szV
  split
  · rw [szL_len]; omega
  · simp
theorem sq_ok (k : Nat) (h : 1 ≤ k ∧ k ≤ 5) : elB (elL (sqF k)) = true := by
  obtain ⟨h1, h2⟩ := h
  rcases (by omega : k = 1 ∨ k = 2 ∨ k = 3 ∨ k = 4 ∨ k = 5) with rfl | rfl | rfl | rfl | rfl <;> decide +kernel
theorem sq_len (k : Nat) : (elL (sqF k)).length ≤ 81 := elL_len _
theorem sz_pic {ss : List ByteArray} (hok : validB ss = true) (k : Nat) (h : 1 ≤ k ∧ k ≤ 5) : pxP 2 ss (elL (sqF k)) = mkPic (row0 ss).size ss.length (pxF 2 ss (elL (sqF k))) ∧ validB (mkPic (row0 ss).size ss.length (pxF 2 ss (elL (sqF k)))) = true ∧ pxOk ss (elL (sqF k)) = true := by
  have V := vp_of hok
  have h1 : pxOk ss (elL (sqF k)) = true := by unfold pxOk; rw [hok, sq_ok k h]; rfl
  exact ⟨by unfold pxP; rw [if_pos h1], mkPic_valid _ _ _ ⟨V.w1, V.w16⟩ ⟨V.n1, V.n16⟩, h1⟩

set_option maxHeartbeats 2000000 in
set_option maxRecDepth 100000 in
theorem spec_Sizes (v : Value) (ss : List ByteArray) (w : World) (hN : ss.length ≤ maxLen) (hz : ∀ s ∈ ss, s.size ≤ maxLen) (hv : Sl w v ss) :
    Calls Tryd.prog 30 #[.agg #[v]] w (SaysN (szV ss) (validB ss) w) := by
  have hb0 := Joins.below_alloc1 w (.cells #[v] 30)
  have hc0 : (w.alloc (.cells #[v] 30)).cell? ⟨w.heap.size, 0, none⟩ = some v := by rw [World.cell?_alloc_mark]; rfl
  have C := Lib.hid (l01Is_any w.heap.size 0 v ss (w.alloc (.cells #[v] 30)) hc0 (hv.below hb0) hN hz)
  cases hok : validB ss with
  | false =>
    have e1 : Hid (szV ss = []) := by show szV ss = _; unfold szV; rw [hok]; rfl
    have HOk := Lib.hid hok
    clear hok hv hc0 hb0
    go_enter Tryd.func30, Tryd.ntmps30
    go_wp2_with fail
    refine C.out.mono ?_
    rintro e w' ⟨rfl, hb⟩
    rw [HOk.out]
    have HB := Lib.hid hb
    clear hb
    go_wp2_with fail
    go_ret2
    rw [e1.out]
    exact ⟨_, rfl, OwnN.nil _ _, (Joins.below_alloc1 w _).trans (HB.out.mono (by simp))⟩
  | true =>
    obtain ⟨i0, hi, hz0, hz1, hz2⟩ := info_parts infoN64
    obtain ⟨W0, hW0⟩ : ∃ W0, w.alloc (.cells #[v] 30) = W0 := ⟨_, rfl⟩
    rw [hW0] at hb0 hc0 C
    have HW := Lib.hid hW0
    have e1 : Hid (szV ss = szL ss 5) := by show szV ss = _; unfold szV; rw [if_pos hok]
    have HSQ : Hid (∀ (k : Nat) W, 1 ≤ k → k ≤ 5 → Calls Tryd.prog 66 #[.int .i64 k] W (SaysEl (elL (sqF k)) W)) := fun k W h1 h2 => by
      have := l03Square_any k W h2
      rwa [sq_same k ⟨h1, h2⟩] at this
    have HMK : Hid (∀ (k pe : Nat) (x : Value) W, 1 ≤ k → k ≤ 5 → Below W0.heap.size W0 W → W.heap[pe]? = some (.cells #[x] 36 (0, 0)) → SlS W x (elL (sqF k)) →
        Calls Tryd.prog 67 #[.pointer (some ⟨w.heap.size, 0, none⟩), .pointer (some ⟨pe, 0, none⟩), .int .i64 2] W (TookPic W (pxP 2 ss (elL (sqF k))))) := fun k pe x W h1 h2 hb he hx => by
      have hl := sq_len k
      rw [(sz_pic hok k ⟨h1, h2⟩).1]
      exact l03Make_any 2 (by omega) w.heap.size pe ss x _ W ⟨hok, v, cell_kept hb hc0, (hv.below hb0).below hb⟩ he hx (by omega) (sq_ok k ⟨h1, h2⟩)
    have HCN : Hid (∀ (k pb : Nat) (x : Value) W, 1 ≤ k → k ≤ 5 → W.cell? ⟨pb, 0, none⟩ = some x → Sl W x (pxP 2 ss (elL (sqF k))) →
        Calls Tryd.prog 68 #[.pointer (some ⟨pb, 0, none⟩)] W (fun e w' => e = .returned (.int .i64 (szN ss k)) ∧ W = w')) := fun k pb x W h1 h2 hc hx => by
      have h3 := sz_pic hok k ⟨h1, h2⟩
      have e2 : szN ss k = ((rs (wordsOf (pxP 2 ss (elL (sqF k)))) (pxP 2 ss (elL (sqF k))).length : Nat) : Int) := by
        unfold szN cbV; rw [h3.1, if_pos h3.2.1]
      rw [e2]
      exact l01Count_any pb 0 _ W ⟨by rw [h3.1]; exact h3.2.1, x, hc, hx⟩
    have HSn : Hid (∀ n, numsV (szL ss (n + 1)) = numsV (szL ss n) ++ [.int .i64 (szN ss (n + 1))]) := szL_snoc ss
    have HOk := Lib.hid hok
    have HB0 := Lib.hid hb0
    have hs0 : w.heap.size < W0.heap.size := by rw [← hW0]; simp
    clear hok hv hc0 hb0 hN hz hW0
    go_enter Tryd.func30, Tryd.ntmps30
    go_wp2_with fail
    rw [HW.out]
    refine C.out.mono ?_
    rintro e w1 ⟨rfl, hb⟩
    rw [HOk.out]
    have HB1 := Lib.hid hb
    have L1 : Hid (World.ownsRow (w1.alloc (.cells #[] 2)) W0.heap.size 2 1 (.slice (some ⟨w1.heap.size, 0, none⟩) 0 0) 0 (numsV (szL ss 0))) := World.ownsRow_lit (base := W0.heap.size) (e := 2) (size := 1) w1 #[] 0 hb.size (by unfold maxLen; omega) rfl
    have HB2 := Lib.hid (hb.alloc hb.size (.cells #[] 2))
    clear hb
    go_wp2_with fail
    go_loopw [4, 5] (fun ov kv wr => ∃ (u : Value) (j k : Nat), u = ov ∧ Hid (k = j + 1) ∧ k ≤ j + 1 ∧ j + 1 ≤ k ∧ j ≤ 5 ∧ kv = .int .i64 k ∧ Hid (wr.ownsRow W0.heap.size 2 1 u j (numsV (szL ss j))) ∧ Hid (Below W0.heap.size W0 wr)) (fun _ kv _ => 6 - (intOf kv).toNat)
    case atStart => exact ⟨_, 0, 1, rfl, rfl, by omega, by omega, by omega, rfl, L1, HB2⟩
    case round =>
      clear L1 HB2
      obtain ⟨u, j, k, rfl, hk, hk1, hk2, hj, rfl, HO, HB⟩ := hrel
      by_cases hlt : j < 5
      · have k1 : 1 ≤ k := by omega
        have k5 : k ≤ 5 := by omega
        have kle : (k : Int) ≤ 5 := by omega
        go_wp2_with fail
        refine (HSQ.out k _ k1 k5).mono ?_
        rintro e w2 ⟨ao2, n2, cap2, rfl, hown2, hb2⟩
        have E2 := Lib.hid (heap_alloc_last w2 (.cells #[.slice ao2 n2 cap2] 36))
        have S2 := Lib.hid (hown2.sl.below (Joins.below_alloc1 w2 (.cells #[.slice ao2 n2 cap2] 36)))
        have hba := hb2.trans ((Joins.below_alloc1 w2 (.cells #[.slice ao2 n2 cap2] 36)).mono hb2.size)
        have B2 := Lib.hid (HB.out.trans (hba.mono HB.out.size))
        have O2 := Lib.hid (own_below HO.out hba)
        clear hown2 hb2 hba HO HB
        go_wp2_with fail
        refine (HMK.out k _ _ _ k1 k5 B2.out E2.out S2.out).mono ?_
        rintro e w3 ⟨g3, cap3, rfl, hown3, hb3⟩
        obtain ⟨L, hL⟩ : ∃ L, (pxP 2 ss (elL (sqF k))).length = L := ⟨_, rfl⟩
        rw [hL] at hown3 ⊢
        have E3 := cell_of_one (heap_alloc_last w3 (.cells #[.slice (some ⟨g3, 0, none⟩) L cap3] 30))
        have S3 := hown3.sl.below (Joins.below_alloc1 w3 (.cells #[.slice (some ⟨g3, 0, none⟩) L cap3] 30))
        have C3 := Lib.hid (HCN.out k w3.heap.size _ _ k1 k5 E3 S3)
        have hba := hb3.trans ((Joins.below_alloc1 w3 (.cells #[.slice (some ⟨g3, 0, none⟩) L cap3] 30)).mono hb3.size)
        have B3 := Lib.hid (B2.out.trans (hba.mono B2.out.size))
        have O3 := Lib.hid (own_below O2.out hba)
        have HL := Lib.hid hL
        clear hown3 hb3 hba E3 S3 E2 S2 B2 O2 hL
        go_wp2_with fail
        refine C3.out.mono ?_
        rintro e w4 ⟨rfl, rfl⟩
        obtain ⟨W4, hW4⟩ : ∃ W4, w3.alloc (.cells #[.slice (some ⟨g3, 0, none⟩) L cap3] 30) = W4 := ⟨_, rfl⟩
        rw [hW4] at B3 O3 ⊢
        have hs4 := B3.out.size
        have HSj : Hid (numsV (szL ss k) = numsV (szL ss j) ++ [.int .i64 (szN ss k)]) := by have := HSn.out j; rwa [← hk.out] at this
        obtain ⟨z, hzz⟩ : ∃ z, szN ss k = z := ⟨_, rfl⟩
        rw [hzz] at HSj ⊢
        clear C3 HL hW4 hzz
        go_wp2_with (at_builtin; refine wpList_append_own _ rfl _ _ 45 rfl W0.heap.size 2 i0 (.int .i64 0) 1 8 Tryd.underlying45 hi hz0 hz1 hz2 rfl (by decide) _ _ _ rfl (O3.out.alloc _) ⟨W4.heap.size, 0, none⟩ 1 1 [.int .i64 z] rfl rfl (cell_one_new _ _ _) (by intro u hu; simp at hu; subst hu; rfl) (by unfold maxLen; omega) (by omega) (by simp; omega) ?_)
        intro v' w5 hown' hgr _
        have o1 := O3.out.alloc (.cells #[.int .i64 z] 2)
        have B5 : Hid (Below W0.heap.size W0 w5) := (B3.out.alloc hs4 _).grown hgr (by simp; omega) (fun k hk => (o1.lt k hk).1)
        have O5 : Hid (w5.ownsRow W0.heap.size 2 1 v' (j + 1) (numsV (szL ss k))) := by
          show World.ownsRow _ _ _ _ _ _ _
          rw [HSj.out]; exact hown'
        clear hown' hgr o1 O3 B3
        go_wp2
        go_roundw
        case rel => exact ⟨_, j + 1, k + 1, rfl, by rw [hk.out]; exact rfl, by omega, by omega, by omega, by go_num, by rw [← hk.out]; rw [← hk.out] at O5; exact O5, B5⟩
        case measure => simp [intOf]; omega
      · obtain rfl : j = 5 := by omega
        have kle : ¬ (k : Int) ≤ 5 := by omega
        have O6 : Hid (OwnN wr w.heap.size u (szL ss 5)) := by
          show World.ownsRow _ _ _ _ _ _ _
          rw [szL_len]
          exact Joins.ownsRow_le HO.out (by omega)
        have B6 := Lib.hid (HB0.out.trans (HB.out.mono HB0.out.size))
        clear HO HB
        go_wp2
        go_ret2
        rw [e1.out]
        exact ⟨_, rfl, O6.out, B6.out⟩
end Go.Proofs.YtenbhnfajjknkaaDoor

/- Contracts of single functions, and plain lemmas, on which the exact laws of this seat rest; each holds under the conditions that it states. -/
namespace Go.Proofs.YtenbhnfajjknkaaDoor
set_option linter.unusedVariables false
set_option linter.unusedSimpArgs false
open Go.RowKit

theorem impl_sq (k : Nat) (W : World) (h : k < 5) : Calls Tryd.prog 69 #[.int .i64 ((k : Int) + 1)] W (SaysElB (elL (sqF ((k + 1 : Nat) : Int))) true W) := by
  have := impl_Square_yes ((k + 1 : Nat) : Int) W ⟨by omega, by omega⟩
  rwa [show (((k + 1 : Nat) : Int)) = (k : Int) + 1 from by omega] at this ⊢
theorem sq_wf (k : Nat) (h : 1 ≤ k ∧ k ≤ 5) : ∀ p ∈ elL (sqF k), (Lit.int .i64 p.1).wf = true ∧ (Lit.int .i64 p.2).wf = true := by
  obtain ⟨h1, h2⟩ := h
  rcases (by omega : k = 1 ∨ k = 2 ∨ k = 3 ∨ k = 4 ∨ k = 5) with rfl | rfl | rfl | rfl | rfl <;> decide +kernel

set_option maxHeartbeats 2000000 in
set_option maxRecDepth 100000 in
theorem impl_Sizes (v : Value) (ss : List ByteArray) (w : World) (hN : ss.length ≤ maxLen) (hz : ∀ s ∈ ss, s.size ≤ maxLen) (hv : Sl w v ss) (he : ErrLen w) :
    Calls Tryd.prog 31 #[.agg #[v]] w (SaysN (szV ss) (validB ss) w) := by
  have hb0 := Joins.below_alloc1 w (.cells #[v] 30)
  have hc0 : (w.alloc (.cells #[v] 30)).cell? ⟨w.heap.size, 0, none⟩ = some v := by rw [World.cell?_alloc_mark]; rfl
  obtain ⟨i0, hi, hz0, hz1, hz2⟩ := info_parts infoN64
  obtain ⟨W0, hW0⟩ : ∃ W0, w.alloc (.cells #[v] 30) = W0 := ⟨_, rfl⟩
  rw [hW0] at hb0 hc0
  have HW := Lib.hid hW0
  have HSQ : Hid (∀ (k : Nat) W, k < 5 → Calls Tryd.prog 69 #[.int .i64 ((k : Int) + 1)] W (SaysElB (elL (sqF ((k + 1 : Nat) : Int))) true W)) := fun k W h => impl_sq k W h
  have HOP : Hid (∀ (k : Nat) (x : Value) W, k < 5 → Below W0.heap.size W0 W → SlS W x (elL (sqF ((k + 1 : Nat) : Int))) → (∀ ao n c, x = .slice ao n c → n ≤ c) →
      Calls Tryd.prog 25 #[.agg #[v], .agg #[x]] W (SaysPic (pxP 2 ss (elL (sqF ((k + 1 : Nat) : Int)))) (validB ss) W)) := fun k x W h hb hx hcap => by
    have hl := sq_len (k + 1)
    have e1 : pxOk ss (elL (sqF ((k + 1 : Nat) : Int))) = validB ss := by unfold pxOk; rw [sq_ok (k + 1) ⟨by omega, by omega⟩, Bool.and_true]
    have := impl_Open v x ss _ W hN hz ((hv.below hb0).below hb) (show (elL (sqF ((k + 1 : Nat) : Int))).length ≤ 1048576 by omega) (sq_wf (k + 1) ⟨by omega, by omega⟩) hx hcap ((he.below hb0).below hb)
    rwa [e1] at this
  have hs0 : w.heap.size < W0.heap.size := by rw [← hW0]; simp
  have HB0 := Lib.hid hb0
  have HC0 : Hid (∀ W, Below W0.heap.size W0 W → W.cell? ⟨w.heap.size, 0, none⟩ = some v) := fun W hb => cell_kept hb hc0
  cases hok : validB ss with
  | false =>
    have e1 : Hid (szV ss = []) := by show szV ss = _; unfold szV; rw [hok]; rfl
    rw [hok] at HOP
    clear hok hv hc0 hb0 hN hz hW0 he
    go_enter Tryd.func31, Tryd.ntmps31
    go_wp2_with fail
    rw [HW.out]
    refine wp_loop_rounds 1 ?_
    rw [rounds_succ]
    go_wp2_with fail
    refine (HSQ.out 0 _ (by omega)).mono ?_
    rintro e w2 ⟨ao2, n2, cap2, rfl, hown2, hb2⟩
    have hba := hb2.trans ((Joins.below_alloc1 w2 (.cells #[.slice ao2 n2 cap2] 36)).mono hb2.size)
    have S2 := Lib.hid (hown2.sl.below (Joins.below_alloc1 w2 (.cells #[.slice ao2 n2 cap2] 36)))
    have E2 := cell_of_one (heap_alloc_last w2 (.cells #[.slice ao2 n2 cap2] 36))
    have K2 := Lib.hid (own_cap hown2)
    have c2 := HC0.out _ hba
    have B2 := Lib.hid hba
    clear hown2 hb2 hba
    go_wp2_with fail
    refine (HOP.out 0 _ _ (by omega) B2.out S2.out K2.out).mono ?_
    rintro e w3 ⟨ao3, n3, cap3, rfl, hown3, hb3⟩
    have B3 := Lib.hid (B2.out.trans (hb3.mono B2.out.size))
    clear hown3 hb3 E2 c2
    go_wp2_with fail
    go_ret2
    rw [e1.out]
    exact ⟨_, rfl, OwnN.nil _ _, HB0.out.trans ((B3.out.trans ((Joins.below_alloc1 _ _).mono B3.out.size)).mono HB0.out.size)⟩
  | true =>
    have e1 : Hid (szV ss = szL ss 5) := by show szV ss = _; unfold szV; rw [if_pos hok]
    rw [hok] at HOP
    have HCT : Hid (∀ (k : Nat) (x : Value) W, k < 5 → Below W0.heap.size W0 W → Sl W x (pxP 2 ss (elL (sqF ((k + 1 : Nat) : Int)))) → Calls Tryd.prog 70 #[.agg #[x]] W (SaysIB (szN ss (k + 1)) true W)) := fun k x W h hb hx => by
      have h3 := sz_pic hok (k + 1) ⟨by omega, by omega⟩
      have V := vp_of h3.2.1
      have hv3 : validB (pxP 2 ss (elL (sqF ((k + 1 : Nat) : Int)))) = true := by rw [h3.1]; exact h3.2.1
      have V3 := vp_of hv3
      have := impl_Count x (pxP 2 ss (elL (sqF ((k + 1 : Nat) : Int)))) W (by have := V3.n16; unfold maxLen; omega) (fun s hs => by
        obtain ⟨i, hi, rfl⟩ := List.getElem_of_mem hs
        have h4 := (V3.rows i hi).1
        have h5 := V3.w16
        rw [List.getD_eq_getElem?_getD, List.getElem?_eq_getElem hi, Option.getD_some] at h4
        unfold maxLen; omega) hx ((he.below hb0).below hb)
      rwa [hv3] at this
    have HSn : Hid (∀ n, numsV (szL ss (n + 1)) = numsV (szL ss n) ++ [.int .i64 (szN ss (n + 1))]) := szL_snoc ss
    clear hok hv hc0 hb0 hN hz hW0 he
    go_enter Tryd.func31, Tryd.ntmps31
    go_wp2_with fail
    rw [HW.out]
    go_loopw [4, 12] (fun ov kv wr => ∃ (u : Value) (k : Nat), u = ov ∧ k ≤ 5 ∧ kv = .int .i64 k ∧ Hid (wr.ownsRow W0.heap.size 2 1 u k (numsV (szL ss k))) ∧ Hid (Below W0.heap.size W0 wr)) (fun _ kv _ => 5 - (intOf kv).toNat)
    case atStart => exact ⟨_, 0, rfl, by omega, rfl, World.ownsRow_nil _ _ _ _, Below.refl _ _⟩
    case round =>
      obtain ⟨u, k, rfl, hk, rfl, HO, HB⟩ := hrel
      by_cases hlt : k < 5
      · have kle : (k : Int) < 5 := by omega
        go_wp2_with fail
        refine (HSQ.out k _ hlt).mono ?_
        rintro e w2 ⟨ao2, n2, cap2, rfl, hown2, hb2⟩
        have hba := hb2.trans ((Joins.below_alloc1 w2 (.cells #[.slice ao2 n2 cap2] 36)).mono hb2.size)
        have S2 := Lib.hid (hown2.sl.below (Joins.below_alloc1 w2 (.cells #[.slice ao2 n2 cap2] 36)))
        have E2 := cell_of_one (heap_alloc_last w2 (.cells #[.slice ao2 n2 cap2] 36))
        have K2 := Lib.hid (own_cap hown2)
        have B2 := Lib.hid (HB.out.trans (hba.mono HB.out.size))
        have O2 := Lib.hid (own_below HO.out hba)
        have c2 := HC0.out _ B2.out
        clear hown2 hb2 hba HO HB
        go_wp2_with fail
        refine (HOP.out k _ _ hlt B2.out S2.out K2.out).mono ?_
        rintro e w3 ⟨ao3, n3, cap3, rfl, hown3, hb3⟩
        have hba := hb3.trans ((Joins.below_alloc1 w3 (.cells #[.slice ao3 n3 cap3] 30)).mono hb3.size)
        have S3 := Lib.hid (hown3.sl.below (Joins.below_alloc1 w3 (.cells #[.slice ao3 n3 cap3] 30)))
        have E3 := cell_of_one (heap_alloc_last w3 (.cells #[.slice ao3 n3 cap3] 30))
        have B3 := Lib.hid (B2.out.trans (hba.mono B2.out.size))
        have O3 := Lib.hid (own_below O2.out hba)
        clear hown3 hb3 hba E2 S2 K2 c2 B2 O2
        go_wp2_with fail
        refine (HCT.out k _ _ hlt B3.out S3.out).mono ?_
        rintro e w4 ⟨rfl, hb4⟩
        have B4 := Lib.hid (B3.out.trans (hb4.mono B3.out.size))
        have O4 := Lib.hid (own_below O3.out hb4)
        have hs4 := B4.out.size
        have HSj : Hid (numsV (szL ss (k + 1)) = numsV (szL ss k) ++ [.int .i64 (szN ss (k + 1))]) := HSn.out k
        obtain ⟨z, hzz⟩ : ∃ z, szN ss (k + 1) = z := ⟨_, rfl⟩
        rw [hzz] at HSj ⊢
        clear hb4 S3 E3 B3 O3 hzz
        go_wp2_with (at_builtin; refine wpList_append_own _ rfl _ _ 45 rfl W0.heap.size 2 i0 (.int .i64 0) 1 8 Tryd.underlying45 hi hz0 hz1 hz2 rfl (by decide) _ _ _ rfl (O4.out.alloc _) ⟨w4.heap.size, 0, none⟩ 1 1 [.int .i64 z] rfl rfl (cell_one_new _ _ _) (by intro u hu; simp at hu; subst hu; rfl) (by unfold maxLen; omega) (by omega) (by simp; omega) ?_)
        intro v' w5 hown' hgr _
        have o1 := O4.out.alloc (.cells #[.int .i64 z] 2)
        have B5 : Hid (Below W0.heap.size W0 w5) := (B4.out.alloc hs4 _).grown hgr (by simp; omega) (fun k hk => (o1.lt k hk).1)
        have O5 : Hid (w5.ownsRow W0.heap.size 2 1 v' (k + 1) (numsV (szL ss (k + 1)))) := by
          show World.ownsRow _ _ _ _ _ _ _
          rw [HSj.out]; exact hown'
        clear hown' hgr o1 O4 B4
        go_wp2
        go_roundw
        case rel => exact ⟨_, k + 1, rfl, by omega, by go_num, O5, B5⟩
        case measure => simp [intOf]; omega
      · obtain rfl : k = 5 := by omega
        have O6 : Hid (OwnN wr w.heap.size u (szL ss 5)) := by
          show World.ownsRow _ _ _ _ _ _ _
          rw [szL_len]
          exact Joins.ownsRow_le HO.out (by omega)
        have B6 := Lib.hid (HB0.out.trans (HB.out.mono HB0.out.size))
        clear HO HB
        go_wp2
        go_ret2
        rw [e1.out]
        exact ⟨_, rfl, O6.out, B6.out⟩
end Go.Proofs.YtenbhnfajjknkaaDoor
