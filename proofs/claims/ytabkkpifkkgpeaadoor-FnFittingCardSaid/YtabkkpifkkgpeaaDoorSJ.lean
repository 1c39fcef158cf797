/- Contracts of single functions, and plain lemmas, on which the exact laws of this seat rest; each holds under the conditions that it states. -/
import Derived.Test.YtabkkpifkkgpeaaDoorSI
import Derived.Test.YtabkkpifkkgpeaaDoorSR
import Derived.Test.YtabkkpifkkgpeaaDoorAi
import Derived.Test.YtabkkpifkkgpeaaDoorSH
import Derived.Test.YtabkkpifkkgpeaaDoorSG
import Derived.Test.YtabkkpifkkgpeaaDoorL14
import Derived.Deep.RegionHeld3
import Derived.Deep.DeepCutAuto
namespace Go.Proofs.YtabkkpifkkgpeaaDoor
set_option linter.unusedVariables false
set_option linter.unusedSimpArgs false
open Go.RowKit

theorem impl_sq (k : Nat) (W : World) (h : k < 5) : Calls Tryd.prog 105 #[.int .i64 ((k : Int) + 1)] W (SaysElB (elL (sqF ((k + 1 : Nat) : Int))) true W) := by
  have := impl_Square_yes ((k + 1 : Nat) : Int) W ⟨by omega, by omega⟩
  rwa [show (((k + 1 : Nat) : Int)) = (k : Int) + 1 from by omega] at this ⊢
theorem sq_wf (k : Nat) (h : 1 ≤ k ∧ k ≤ 5) : ∀ p ∈ elL (sqF k), (Lit.int .i64 p.1).wf = true ∧ (Lit.int .i64 p.2).wf = true := by
  obtain ⟨h1, h2⟩ := h
  rcases (by omega : k = 1 ∨ k = 2 ∨ k = 3 ∨ k = 4 ∨ k = 5) with rfl | rfl | rfl | rfl | rfl <;> decide +kernel

set_option maxHeartbeats 2000000 in
set_option maxRecDepth 100000 in
theorem impl_Sizes (v : Value) (ss : List ByteArray) (w : World) (hN : ss.length ≤ maxLen) (hz : ∀ s ∈ ss, s.size ≤ maxLen) (hv : Sl w v ss) (he : ErrLen w) :
    Calls Tryd.prog 37 #[.agg #[v]] w (SaysN (szV ss) (validB ss) w) := by
  have hb0 := Joins.below_alloc1 w (.cells #[v] 42)
  have hc0 : (w.alloc (.cells #[v] 42)).cell? ⟨w.heap.size, 0, none⟩ = some v := by rw [World.cell?_alloc_mark]; rfl
  obtain ⟨i0, hi, hz0, hz1, hz2⟩ := info_parts infoN64
  obtain ⟨W0, hW0⟩ : ∃ W0, w.alloc (.cells #[v] 42) = W0 := ⟨_, rfl⟩
  rw [hW0] at hb0 hc0
  have HW := Lib.hid hW0
  have HSQ : Hid (∀ (k : Nat) W, k < 5 → Calls Tryd.prog 105 #[.int .i64 ((k : Int) + 1)] W (SaysElB (elL (sqF ((k + 1 : Nat) : Int))) true W)) := fun k W h => impl_sq k W h
  have HOP : Hid (∀ (k : Nat) (x : Value) W, k < 5 → Below W0.heap.size W0 W → SlS W x (elL (sqF ((k + 1 : Nat) : Int))) → (∀ ao n c, x = .slice ao n c → n ≤ c) →
      Calls Tryd.prog 35 #[.agg #[v], .agg #[x]] W (SaysPic (pxP 2 ss (elL (sqF ((k + 1 : Nat) : Int)))) (validB ss) W)) := fun k x W h hb hx hcap => by
    have hl := sq_len (k + 1)
    have e1 : pxOk ss (elL (sqF ((k + 1 : Nat) : Int))) = validB ss := by unfold pxOk; rw [sq_ok (k + 1) ⟨by omega, by omega⟩, Bool.and_true]
    have := impl_Open v x ss _ W hN hz ((hv.below hb0).below hb) (show (elL (sqF ((k + 1 : Nat) : Int))).length ≤ 1048576 by omega) (sq_wf (k + 1) ⟨by omega, by omega⟩) hx hcap ((he.below hb0).below hb)
    rwa [e1] at this
  have hs0 : w.heap.size < W0.heap.size := by rw [← hW0]; simp
  have HB0 := Lib.hid hb0
  have HC0 : Hid (∀ W, Below W0.heap.size W0 W → W.cell? ⟨w.heap.size, 0, none⟩ = some v) := fun W hb => cell_kept hb hc0
  cases hok : validB ss with
  | false =>
    have e1 : Hid (szV ss = []) := by show szV ss = _; unfold szV; rw [hok]; rfl
    rw [hok] at HOP
    clear hok hv hc0 hb0 hN hz hW0 he
    go_enter Tryd.func37, Tryd.ntmps37
    go_wp2_with fail
    rw [HW.out]
    refine wp_loop_rounds 1 ?_
    rw [rounds_succ]
    go_wp2_with fail
    refine (HSQ.out 0 _ (by omega)).mono ?_
    rintro e w2 ⟨ao2, n2, cap2, rfl, hown2, hb2⟩
    have hba := hb2.trans ((Joins.below_alloc1 w2 (.cells #[.slice ao2 n2 cap2] 46)).mono hb2.size)
    have S2 := Lib.hid (hown2.sl.below (Joins.below_alloc1 w2 (.cells #[.slice ao2 n2 cap2] 46)))
    have E2 := cell_of_one (heap_alloc_last w2 (.cells #[.slice ao2 n2 cap2] 46))
    have K2 := Lib.hid (own_cap hown2)
    have c2 := HC0.out _ hba
    have B2 := Lib.hid hba
    clear hown2 hb2 hba
    go_wp2_with fail
    refine (HOP.out 0 _ _ (by omega) B2.out S2.out K2.out).mono ?_
    rintro e w3 ⟨ao3, n3, cap3, rfl, hown3, hb3⟩
    have B3 := Lib.hid (B2.out.trans (hb3.mono B2.out.size))
    clear hown3 hb3 E2 c2
    go_wp2_with fail
    go_ret2
    rw [e1.out]
    exact ⟨_, rfl, OwnN.nil _ _, HB0.out.trans ((B3.out.trans ((Joins.below_alloc1 _ _).mono B3.out.size)).mono HB0.out.size)⟩
  | true =>
    have e1 : Hid (szV ss = szL ss 5) := by show szV ss = _; unfold szV; rw [if_pos hok]
    rw [hok] at HOP
    have HCT : Hid (∀ (k : Nat) (x : Value) W, k < 5 → Below W0.heap.size W0 W → Sl W x (pxP 2 ss (elL (sqF ((k + 1 : Nat) : Int)))) → Calls Tryd.prog 31 #[.agg #[x]] W (SaysIB (szN ss (k + 1)) true W)) := fun k x W h hb hx => by
      have h3 := sz_pic hok (k + 1) ⟨by omega, by omega⟩
      have V := vp_of h3.2.1
      have hv3 : validB (pxP 2 ss (elL (sqF ((k + 1 : Nat) : Int)))) = true := by rw [h3.1]; exact h3.2.1
      have V3 := vp_of hv3
      have := impl_Count x (pxP 2 ss (elL (sqF ((k + 1 : Nat) : Int)))) W (by have := V3.n16; unfold maxLen; omega) (fun s hs => by
        obtain ⟨i, hi, rfl⟩ := List.getElem_of_mem hs
        have h4 := (V3.rows i hi).1
        have h5 := V3.w16
        rw [List.getD_eq_getElem?_getD, List.getElem?_eq_getElem hi, Option.getD_some] at h4
        unfold maxLen; omega) hx ((he.below hb0).below hb)
      rwa [hv3] at this
    have HSn : Hid (∀ n, numsV (szL ss (n + 1)) = numsV (szL ss n) ++ [.int .i64 (szN ss (n + 1))]) := szL_snoc ss
    clear hok hv hc0 hb0 hN hz hW0 he
    go_enter Tryd.func37, Tryd.ntmps37
    go_wp2_with fail
    rw [HW.out]
    go_loopw [4, 12] (fun ov kv wr => ∃ (u : Value) (k : Nat), u = ov ∧ k ≤ 5 ∧ kv = .int .i64 k ∧ Hid (wr.ownsRow W0.heap.size 2 1 u k (numsV (szL ss k))) ∧ Hid (Below W0.heap.size W0 wr)) (fun _ kv _ => 5 - (intOf kv).toNat)
    case atStart => exact ⟨_, 0, rfl, by omega, rfl, World.ownsRow_nil _ _ _ _, Below.refl _ _⟩
    case round =>
      obtain ⟨u, k, rfl, hk, rfl, HO, HB⟩ := hrel
      by_cases hlt : k < 5
      · have kle : (k : Int) < 5 := by omega
        go_wp2_with fail
        refine (HSQ.out k _ hlt).mono ?_
        rintro e w2 ⟨ao2, n2, cap2, rfl, hown2, hb2⟩
        have hba := hb2.trans ((Joins.below_alloc1 w2 (.cells #[.slice ao2 n2 cap2] 46)).mono hb2.size)
        have S2 := Lib.hid (hown2.sl.below (Joins.below_alloc1 w2 (.cells #[.slice ao2 n2 cap2] 46)))
        have E2 := cell_of_one (heap_alloc_last w2 (.cells #[.slice ao2 n2 cap2] 46))
        have K2 := Lib.hid (own_cap hown2)
        have B2 := Lib.hid (HB.out.trans (hba.mono HB.out.size))
        have O2 := Lib.hid (own_below HO.out hba)
        have c2 := HC0.out _ B2.out
        clear hown2 hb2 hba HO HB
        go_wp2_with fail
        refine (HOP.out k _ _ hlt B2.out S2.out K2.out).mono ?_
        rintro e w3 ⟨ao3, n3, cap3, rfl, hown3, hb3⟩
        have hba := hb3.trans ((Joins.below_alloc1 w3 (.cells #[.slice ao3 n3 cap3] 42)).mono hb3.size)
        have S3 := Lib.hid (hown3.sl.below (Joins.below_alloc1 w3 (.cells #[.slice ao3 n3 cap3] 42)))
        have E3 := cell_of_one (heap_alloc_last w3 (.cells #[.slice ao3 n3 cap3] 42))
        have B3 := Lib.hid (B2.out.trans (hba.mono B2.out.size))
        have O3 := Lib.hid (own_below O2.out hba)
        clear hown3 hb3 hba E2 S2 K2 c2 B2 O2
        go_wp2_with fail
        refine (HCT.out k _ _ hlt B3.out S3.out).mono ?_
        rintro e w4 ⟨rfl, hb4⟩
        have B4 := Lib.hid (B3.out.trans (hb4.mono B3.out.size))
        have O4 := Lib.hid (own_below O3.out hb4)
        have hs4 := B4.out.size
        have HSj : Hid (numsV (szL ss (k + 1)) = numsV (szL ss k) ++ [.int .i64 (szN ss (k + 1))]) := HSn.out k
        obtain ⟨z, hzz⟩ : ∃ z, szN ss (k + 1) = z := ⟨_, rfl⟩
        rw [hzz] at HSj ⊢
        clear hb4 S3 E3 B3 O3 hzz
        go_wp2_with (at_builtin; refine wpList_append_own _ rfl _ _ 39 rfl W0.heap.size 2 i0 (.int .i64 0) 1 8 Tryd.underlying39 hi hz0 hz1 hz2 rfl (by decide) _ _ _ rfl (O4.out.alloc _) ⟨w4.heap.size, 0, none⟩ 1 1 [.int .i64 z] rfl rfl (cell_one_new _ _ _) (by intro u hu; simp at hu; subst hu; rfl) (by unfold maxLen; omega) (by omega) (by simp; omega) ?_)
        intro v' w5 hown' hgr _
        have o1 := O4.out.alloc (.cells #[.int .i64 z] 2)
        have B5 : Hid (Below W0.heap.size W0 w5) := (B4.out.alloc hs4 _).grown hgr (by simp; omega) (fun k hk => (o1.lt k hk).1)
        have O5 : Hid (w5.ownsRow W0.heap.size 2 1 v' (k + 1) (numsV (szL ss (k + 1)))) := by
          show World.ownsRow _ _ _ _ _ _ _
          rw [HSj.out]; exact hown'
        clear hown' hgr o1 O4 B4
        go_wp2
        go_roundw
        case rel => exact ⟨_, k + 1, rfl, by omega, by go_num, O5, B5⟩
        case measure => simp [intOf]; omega
      · obtain rfl : k = 5 := by omega
        have O6 : Hid (OwnN wr w.heap.size u (szL ss 5)) := by
          show World.ownsRow _ _ _ _ _ _ _
          rw [szL_len]
          exact Joins.ownsRow_le HO.out (by omega)
        have B6 := Lib.hid (HB0.out.trans (HB.out.mono HB0.out.size))
        clear HO HB
        go_wp2
        go_ret2
        rw [e1.out]
        exact ⟨_, rfl, O6.out, B6.out⟩
end Go.Proofs.YtabkkpifkkgpeaaDoor

/- Contracts of single functions, and plain lemmas, on which the exact laws of this seat rest; each holds under the conditions that it states. -/
namespace Go.Proofs.YtabkkpifkkgpeaaDoor
set_option linter.unusedVariables false
open Go.RowKit

/-- an element's offsets -/
abbrev ElO (lo hi : Nat) (v : Value) (xs : List (Int × Int)) : World → Prop := Row 29 2 lo hi v xs.length (flat2 xs)
theorem ElO.of {W : World} {lo hi : Nat} {v : Value} {xs : List (Int × Int)} (h : OwnS W lo v xs) (hh : W.heap.size ≤ hi) : ElO lo hi v xs W :=
  ⟨h, fun j hj => Nat.lt_of_lt_of_le (h.lt j hj).2 hh⟩
theorem ElO.sl {W : World} {lo hi : Nat} {v : Value} {xs : List (Int × Int)} (h : ElO lo hi v xs W) : SlS W v xs := OwnS.sl h.o
/-- a row of one's own has room for what it holds -/
theorem own_capA {W : World} {base s n : Nat} {e : TypeId} {v : Value} {xs : List Value} (h : W.ownsRow base e s v n xs) : ∀ ao m c, v = .slice ao m c → m ≤ c := by
  intro ao m c hv
  rcases h.2 with ⟨rfl, rfl⟩ | ⟨g, cap, cur, rfl, _, _, hc, _⟩
  · cases hv; exact Nat.le_refl _
  · cases hv; exact hc
end Go.Proofs.YtabkkpifkkgpeaaDoor

/- Contracts of single functions, and plain lemmas, on which the exact laws of this seat rest; each holds under the conditions that it states. -/
namespace Go.Proofs.YtabkkpifkkgpeaaDoor
set_option linter.unusedVariables false
set_option linter.unusedSimpArgs false
open Go.RowKit
attribute [local go_sem] Oper.semAt_some

/-- an element in a variable -/
structure EV (W : World) (b : Nat) (v : Value) (xs : List (Int × Int)) : Prop where
  c : W.heap[b]? = some (.cells #[v] 46 (0, 0))
  sl : SlS W v xs
theorem EV.below {W W' : World} {b : Nat} {v : Value} {xs : List (Int × Int)} (h : EV W b v xs) (hb : Below W.heap.size W W') : EV W' b v xs :=
  ⟨(hb.block b (Array.getElem?_eq_some_iff.1 h.c).1).trans h.c, h.sl.below hb⟩
theorem EV.alloc {W : World} {b : Nat} {v : Value} {xs : List (Int × Int)} (h : EV W b v xs) (o : Obj) : EV (W.alloc o) b v xs := h.below (Joins.below_alloc1 W o)
theorem EV.cell {W : World} {b : Nat} {v : Value} {xs : List (Int × Int)} (h : EV W b v xs) : W.cell? ⟨b, 0, none⟩ = some v := cell_of_one h.c
theorem EV.new {W : World} {v : Value} {xs : List (Int × Int)} (h : SlS W v xs) : EV (W.alloc (.cells #[v] 46)) W.heap.size v xs :=
  ⟨heap_alloc_last W _, h.below (Joins.below_alloc1 W _)⟩
theorem small_wf {xs : List (Int × Int)} (h : ∀ q ∈ xs, (-2 ≤ q.1 ∧ q.1 ≤ 2) ∧ (-2 ≤ q.2 ∧ q.2 ≤ 2)) : ∀ p ∈ xs, (Lit.int .i64 p.1).wf = true ∧ (Lit.int .i64 p.2).wf = true := fun p hp => by
  have := h p hp
  exact ⟨wfE (by omega) (by omega), wfE (by omega) (by omega)⟩
theorem SlN.five {W : World} {v : Value} {ns : List Int} (h : SlN W v ns) (h5 : ns.length = 5) : ∃ b off cap, v = .slice (some ⟨b, off, none⟩) 5 cap ∧ NumsAt W b off ns := by
  rcases h with ⟨_, _, _, rfl⟩ | ⟨b, off, cap, rfl, _, h3⟩
  · cases h5
  · exact ⟨b, off, cap, by rw [h5], h3⟩

set_option maxHeartbeats 8000000 in
set_option maxRecDepth 100000 in
theorem law_FnOpenings (v0 v1 : Value) (ns ms : List Nat) (w : World) (hv0 : SlY w v0 ns) (hv1 : SlY w v1 ms) (hl0 : ns.length ≤ maxLen) (hl1 : ms.length ≤ maxLen) (hby0 : ∀ i, ns.getD i 0 < 256) (hby1 : ∀ i, ms.getD i 0 < 256) (he : ErrLen w) :
    Calls Tryd.prog 7 #[v0, v1] w fun e w' => e = .returned (.bool true) ∧ Below w.heap.size w w' := by
  have CL := Lib.hid (b10Long_any v0 v1 ns ms w hv0 hv1)
  obtain ⟨lg, hlg⟩ : ∃ x, (decide (1048576 < ns.length) || decide (1048576 < ms.length)) = x := ⟨_, rfl⟩
  rw [hlg] at CL
  clear hlg
  have CB := Lib.hid (fun W (hb : Below w.heap.size w W) => B10Picture_any v0 ns W (hv0.below hb) hby0 hl0)
  have CE := Lib.hid (fun W (hb : Below w.heap.size w W) => B10Element_any v1 ms W (hv1.below hb) hby1 hl1)
  have CK := Lib.hid (fun u ss W (hb : Below w.heap.size w W) (hs : Sl W u ss) (hok : validB ss = true) => B10Like_any v1 u ms ss W (hv1.below hb) hby1 hl1 hs hok)
  have HE : Hid (∀ W, Below w.heap.size w W → ErrLen W) := fun W hb => he.below hb
  obtain ⟨ao, capA0, rfl⟩ := hv0.form
  obtain ⟨ao1, capA1, rfl⟩ := hv1.form
  have B0 := Lib.hid (Below.refl w.heap.size w)
  clear hv0 hv1 hl0 hl1 hby0 hby1 he
  cases lg with
  | true =>
    go_enter Tryd.func7, Tryd.ntmps7
    go_wp2_with fail
    refine CL.out.mono ?_
    rintro e w9 ⟨rfl, rfl⟩
    go_wp2_with fail
    go_ret
    exact ⟨rfl, B0.out⟩
  | false =>
    go_enter Tryd.func7, Tryd.ntmps7
    go_wp2_with fail
    refine CL.out.mono ?_
    rintro e w9 ⟨rfl, rfl⟩
    go_wp2_with fail
    refine (CB.out w B0.out).mono ?_
    rintro e u1 ⟨a, b, ha7, hb7, f, g1, cap1, rfl, hown, hb⟩
    have hsl := OwnP.sl hown
    have B1 := Lib.hid ((B0.out.trans (hb.mono B0.out.size)).alloc (B0.out.trans (hb.mono B0.out.size)).size (.cells #[.slice (some ⟨g1, 0, none⟩) b cap1] 42))
    have P_p1 := Lib.hid (PV.new hsl)
    obtain ⟨W1, hW⟩ : ∃ W, u1.alloc (.cells #[.slice (some ⟨g1, 0, none⟩) b cap1] 42) = W := ⟨_, rfl⟩
    obtain ⟨b_p, hq⟩ : ∃ q, u1.heap.size = q := ⟨_, rfl⟩
    rw [hW] at B1 P_p1
    rw [hq] at P_p1
    have EW1 := Lib.hid hW
    have EQ1 := Lib.hid hq
    clear hW hq hsl hown hb  
    have hA : 1 ≤ a ∧ a ≤ 16 := by omega
    have hB : 1 ≤ b ∧ b ≤ 16 := by omega
    clear ha7 hb7 CB
    go_wp2_with fail
    rw [EW1.out, EQ1.out]
    refine (CE.out W1 B1.out).mono ?_
    rintro e u2 ⟨g2, cap2, xs, rfl, hown, hb, hEl, hx4, hxs⟩
    have hsl := OwnS.sl hown
    have HCap_e := Lib.hid (own_capA hown)
    have B2 := Lib.hid ((B1.out.trans (hb.mono B1.out.size)).alloc (B1.out.trans (hb.mono B1.out.size)).size (.cells #[.slice (some ⟨g2, 0, none⟩) xs.length cap2] 46))
    have P_p2 := Lib.hid ((P_p1.out.below hb).alloc (.cells #[.slice (some ⟨g2, 0, none⟩) xs.length cap2] 46))
    have P_e2 := Lib.hid (EV.new hsl)
    obtain ⟨W2, hW⟩ : ∃ W, u2.alloc (.cells #[.slice (some ⟨g2, 0, none⟩) xs.length cap2] 46) = W := ⟨_, rfl⟩
    obtain ⟨b_e, hq⟩ : ∃ q, u2.heap.size = q := ⟨_, rfl⟩
    rw [hW] at B2 P_p2 P_e2
    rw [hq] at P_e2
    have EW2 := Lib.hid hW
    have EQ2 := Lib.hid hq
    clear hW hq hsl hown hb  P_p1
    have hwf := small_wf hxs
    have hx6 : xs.length ≤ 1048576 := by omega
    have VM := Lib.hid (fun f => mkPic_valid a b f hA hB)
    have R0 := Lib.hid (fun f => mkPic_row0 a b f hB.1)
    have LM := Lib.hid (fun f g => like_mk a b f g hA hB)
    have hpx : ∀ k f, pxP k (mkPic a b f) xs = mkPic a b (pxF k (mkPic a b f) xs) ∧ pxOk (mkPic a b f) xs = true := fun k f => by
      have h1 : pxOk (mkPic a b f) xs = true := by unfold pxOk; rw [VM.out f, hEl]; rfl
      exact ⟨by unfold pxP; rw [if_pos h1, R0.out, mkPic_len], h1⟩
    have HBL : Hid (∀ u f W, Below w.heap.size w W → Sl W u (mkPic a b f) → Calls Tryd.prog 28 #[.slice ao1 ms.length capA1, .agg #[u]] W (SomePic a b W)) := fun u f W hb hs => by
      have := CK.out u (mkPic a b f) W hb hs (VM.out f)
      rw [R0.out, mkPic_len] at this
      exact this
    have CO : Hid (∀ u v f W, Below w.heap.size w W → Sl W u (mkPic a b f) → SlS W v xs → (∀ ao n c, v = .slice ao n c → n ≤ c) → Calls Tryd.prog 35 #[.agg #[u], .agg #[v]] W (SaysPic (mkPic a b (pxF 2 (mkPic a b f) xs)) true W)) := fun u v f W hb hu hv hc => by
      have := impl_Open u v (mkPic a b f) xs W (len_max (VM.out f)) (mem_size (VM.out f)) hu hx6 hwf hv hc (HE.out W hb)
      rw [(hpx 2 f).1, (hpx 2 f).2] at this
      exact this
    have CC : Hid (∀ u v f W, Below w.heap.size w W → Sl W u (mkPic a b f) → SlS W v xs → (∀ ao n c, v = .slice ao n c → n ≤ c) → Calls Tryd.prog 36 #[.agg #[u], .agg #[v]] W (SaysPic (mkPic a b (pxF 3 (mkPic a b f) xs)) true W)) := fun u v f W hb hu hv hc => by
      have := impl_Close u v (mkPic a b f) xs W (len_max (VM.out f)) (mem_size (VM.out f)) hu hx6 hwf hv hc (HE.out W hb)
      rw [(hpx 3 f).1, (hpx 3 f).2] at this
      exact this
    have CJ : Hid (∀ u v f k W, Below w.heap.size w W → Sl W u (mkPic a b f) → Sl W v (mkPic a b k) → Calls Tryd.prog 30 #[.int .i64 0, .agg #[u], .agg #[v]] W (SaysPic (mkPic a b (joF jF0 (mkPic a b f) (mkPic a b k))) true W)) := fun u v f k W hb hu hv => by
      have := impl_Join_0 u v _ _ W (len_max (VM.out f)) (mem_size (VM.out f)) hu (len_max (VM.out k)) (mem_size (VM.out k)) hv (HE.out W hb) (LM.out f k)
      rw [R0.out, mkPic_len] at this
      exact this
    have CN : Hid (∀ u f W, Below w.heap.size w W → Sl W u (mkPic a b f) → Calls Tryd.prog 31 #[.agg #[u]] W (SaysIB (cbV (mkPic a b f)) true W)) := fun u f W hb hu => by
      have := impl_Count u (mkPic a b f) W (len_max (VM.out f)) (mem_size (VM.out f)) hu (HE.out W hb)
      rw [VM.out f] at this
      exact this
    have CZ : Hid (∀ u f W, Below w.heap.size w W → Sl W u (mkPic a b f) → Calls Tryd.prog 37 #[.agg #[u]] W (SaysN (szL (mkPic a b f) 5) true W)) := fun u f W hb hu => by
      have := impl_Sizes u (mkPic a b f) W (len_max (VM.out f)) (mem_size (VM.out f)) hu (HE.out W hb)
      unfold szV at this
      rw [VM.out f, if_pos rfl] at this
      exact this
    have CI : Hid (∀ u v f k W, Below w.heap.size w W → Sl W u (mkPic a b f) → Sl W v (mkPic a b k) → insideP (mkPic a b f) (mkPic a b k) = true → Calls Tryd.prog 34 #[.agg #[u], .agg #[v]] W (SaysB true W)) := fun u v f k W hb hu hv hi => by
      have := impl_Inside u v _ _ W (len_max (VM.out f)) (mem_size (VM.out f)) hu (len_max (VM.out k)) (mem_size (VM.out k)) hv (HE.out W hb)
      rw [hi] at this
      exact this
    have CS : Hid (∀ x y f W, Sl W x (mkPic a b f) → Sl W y (mkPic a b f) → Calls Tryd.prog 33 #[.agg #[x], .agg #[y]] W (SaysB true W)) := fun x y f W hx hy => b10Same_yes x y _ W hx hy (by rw [mkPic_len]; exact hB.1) (by rw [mkPic_len]; exact hB.2)
    have I1 : Hid (insideP (mkPic a b (pxF 2 (mkPic a b f) xs)) (mkPic a b f) = true) := inside_mk a b hA hB _ _ fun y hy x hx h => by
      have h1 : opnI (mkPic a b f) xs (x : Int) (y : Int) = true := h
      have := opn_pix h1
      rwa [pixI_mk hx hy] at this
    have I2 : Hid (insideP (mkPic a b f) (mkPic a b (pxF 3 (mkPic a b f) xs)) = true) := inside_mk a b hA hB _ _ fun y hy x hx h => by
      show clsI (mkPic a b f) xs (x : Int) (y : Int) = true
      exact pix_cls (by rw [pixI_mk hx hy]; exact h)
    have I3 : Hid (∀ k, insideP (mkPic a b (pxF 2 (mkPic a b (joF jF0 (mkPic a b f) (mkPic a b k))) xs)) (mkPic a b (pxF 2 (mkPic a b f) xs)) = true) := fun k => inside_mk a b hA hB _ _ fun y hy x hx h => by
      have h1 : opnI (mkPic a b (joF jF0 (mkPic a b f) (mkPic a b k))) xs (x : Int) (y : Int) = true := h
      show opnI (mkPic a b f) xs (x : Int) (y : Int) = true
      refine opn_mono (fun X Y h2 => ?_) h1
      have h3 := (pixI_iff a b hB.1 _ X Y).1 h2
      refine (pixI_iff a b hB.1 _ X Y).2 ⟨h3.1, ?_⟩
      have h4 : (pixF (mkPic a b f) Y.toNat X.toNat && pixF (mkPic a b k) Y.toNat X.toNat) = true := h3.2
      rw [mkPic_pix a b f (show Y.toNat < b by omega) (show X.toNat < a by omega)] at h4
      simp only [Bool.and_eq_true] at h4
      exact h4.1
    have O2 : mkPic a b (pxF 2 (mkPic a b (pxF 2 (mkPic a b f) xs)) xs) = mkPic a b (pxF 2 (mkPic a b f) xs) := open_twice a b hB.1 f xs
    have C2 : mkPic a b (pxF 3 (mkPic a b (pxF 3 (mkPic a b f) xs)) xs) = mkPic a b (pxF 3 (mkPic a b f) xs) := close_twice a b hB.1 f xs
    have HZ : Hid (∀ k, 1 ≤ k → k ≤ 4 → (szL (mkPic a b f) 5).getD k 0 ≤ (szL (mkPic a b f) 5).getD (k - 1) 0 ∧ 0 ≤ (szL (mkPic a b f) 5).getD k 0) := fun k h1 h4 => by
      have hg : ∀ j, j < 5 → (szL (mkPic a b f) 5).getD j 0 = szN (mkPic a b f) (j + 1) := fun j hj => by
        unfold szL
        rw [List.getD_eq_getElem?_getD, List.getElem?_map, List.getElem?_range hj]
        rfl
      rw [hg k (by omega), hg (k - 1) (by omega)]
      have := szN_less a b hA hB f k ⟨h1, h4⟩
      rw [show k - 1 + 1 = k from by omega]
      exact ⟨this, by unfold szN; exact count_pos _⟩
    have HZ0 : Hid ((szL (mkPic a b f) 5).getD 0 0 = cbV (mkPic a b f)) := by
      show _ = _
      rw [← szN_one a b hA hB f]
      rfl
    have hzl : (szL (mkPic a b f) 5).length = 5 := szL_len _ _
    clear CK CE VM R0 LM hpx hwf hEl hxs hx6
    have c_p : (u2.alloc (.cells #[.slice (some ⟨g2, 0, none⟩) xs.length cap2] 46)).cell? ⟨b_p, 0, none⟩ = some (.slice (some ⟨g1, 0, none⟩) b cap1) := by
      rw [EW2.out]
      exact P_p2.out.cell
    have c_e : (u2.alloc (.cells #[.slice (some ⟨g2, 0, none⟩) xs.length cap2] 46)).cell? ⟨u2.heap.size, 0, none⟩ = some (.slice (some ⟨g2, 0, none⟩) xs.length cap2) := by
      rw [EW2.out, EQ2.out]
      exact P_e2.out.cell
    go_wp2_with fail
    rw [EW2.out, EQ2.out]
    refine (CO.out _ _ f W2 B2.out P_p2.out.sl P_e2.out.sl HCap_e.out).mono ?_
    rintro e u3 ⟨ao3, n3, cap3, rfl, hown, hb⟩
    have hsl := OwnP.sl hown
    have B3 := Lib.hid ((B2.out.trans (hb.mono B2.out.size)).alloc (B2.out.trans (hb.mono B2.out.size)).size (.cells #[.slice ao3 n3 cap3] 42))
    have P_p3 := Lib.hid ((P_p2.out.below hb).alloc (.cells #[.slice ao3 n3 cap3] 42))
    have P_e3 := Lib.hid ((P_e2.out.below hb).alloc (.cells #[.slice ao3 n3 cap3] 42))
    have P_a3 := Lib.hid (PV.new hsl)
    obtain ⟨W3, hW⟩ : ∃ W, u3.alloc (.cells #[.slice ao3 n3 cap3] 42) = W := ⟨_, rfl⟩
    obtain ⟨b_a, hq⟩ : ∃ q, u3.heap.size = q := ⟨_, rfl⟩
    rw [hW] at B3 P_p3 P_e3 P_a3
    rw [hq] at P_a3
    have EW3 := Lib.hid hW
    have EQ3 := Lib.hid hq
    clear hW hq hsl hown hb c_p c_e P_p2 P_e2
    have c_a : (u3.alloc (.cells #[.slice ao3 n3 cap3] 42)).cell? ⟨u3.heap.size, 0, none⟩ = some (.slice ao3 n3 cap3) := by
      rw [EW3.out, EQ3.out]
      exact P_a3.out.cell
    have c_e : (u3.alloc (.cells #[.slice ao3 n3 cap3] 42)).cell? ⟨b_e, 0, none⟩ = some (.slice (some ⟨g2, 0, none⟩) xs.length cap2) := by
      rw [EW3.out]
      exact P_e3.out.cell
    go_wp2_with fail
    rw [EW3.out, EQ3.out]
    refine (CO.out _ _ _ W3 B3.out P_a3.out.sl P_e3.out.sl HCap_e.out).mono ?_
    rintro e u4 ⟨ao4, n4, cap4, rfl, hown, hb⟩
    have hsl := OwnP.sl hown
    have B4 := Lib.hid ((B3.out.trans (hb.mono B3.out.size)).alloc (B3.out.trans (hb.mono B3.out.size)).size (.cells #[.slice ao4 n4 cap4] 42))
    have P_p4 := Lib.hid ((P_p3.out.below hb).alloc (.cells #[.slice ao4 n4 cap4] 42))
    have P_e4 := Lib.hid ((P_e3.out.below hb).alloc (.cells #[.slice ao4 n4 cap4] 42))
    have P_a4 := Lib.hid ((P_a3.out.below hb).alloc (.cells #[.slice ao4 n4 cap4] 42))
    have P_b4 := Lib.hid (PV.new hsl)
    obtain ⟨W4, hW⟩ : ∃ W, u4.alloc (.cells #[.slice ao4 n4 cap4] 42) = W := ⟨_, rfl⟩
    obtain ⟨b_b, hq⟩ : ∃ q, u4.heap.size = q := ⟨_, rfl⟩
    rw [hW] at B4 P_p4 P_e4 P_a4 P_b4
    rw [hq] at P_b4
    have EW4 := Lib.hid hW
    have EQ4 := Lib.hid hq
    clear hW hq hsl hown hb c_a c_e P_p3 P_e3 P_a3
    rw [O2] at P_b4
    have c_p : (u4.alloc (.cells #[.slice ao4 n4 cap4] 42)).cell? ⟨b_p, 0, none⟩ = some (.slice (some ⟨g1, 0, none⟩) b cap1) := by
      rw [EW4.out]
      exact P_p4.out.cell
    have c_e : (u4.alloc (.cells #[.slice ao4 n4 cap4] 42)).cell? ⟨b_e, 0, none⟩ = some (.slice (some ⟨g2, 0, none⟩) xs.length cap2) := by
      rw [EW4.out]
      exact P_e4.out.cell
    go_wp2_with fail
    rw [EW4.out, EQ4.out]
    refine (CC.out _ _ f W4 B4.out P_p4.out.sl P_e4.out.sl HCap_e.out).mono ?_
    rintro e u5 ⟨ao5, n5, cap5, rfl, hown, hb⟩
    have hsl := OwnP.sl hown
    have B5 := Lib.hid ((B4.out.trans (hb.mono B4.out.size)).alloc (B4.out.trans (hb.mono B4.out.size)).size (.cells #[.slice ao5 n5 cap5] 42))
    have P_p5 := Lib.hid ((P_p4.out.below hb).alloc (.cells #[.slice ao5 n5 cap5] 42))
    have P_e5 := Lib.hid ((P_e4.out.below hb).alloc (.cells #[.slice ao5 n5 cap5] 42))
    have P_a5 := Lib.hid ((P_a4.out.below hb).alloc (.cells #[.slice ao5 n5 cap5] 42))
    have P_b5 := Lib.hid ((P_b4.out.below hb).alloc (.cells #[.slice ao5 n5 cap5] 42))
    have P_c5 := Lib.hid (PV.new hsl)
    obtain ⟨W5, hW⟩ : ∃ W, u5.alloc (.cells #[.slice ao5 n5 cap5] 42) = W := ⟨_, rfl⟩
    obtain ⟨b_c, hq⟩ : ∃ q, u5.heap.size = q := ⟨_, rfl⟩
    rw [hW] at B5 P_p5 P_e5 P_a5 P_b5 P_c5
    rw [hq] at P_c5
    have EW5 := Lib.hid hW
    have EQ5 := Lib.hid hq
    clear hW hq hsl hown hb c_p c_e P_p4 P_e4 P_a4 P_b4
    have c_c : (u5.alloc (.cells #[.slice ao5 n5 cap5] 42)).cell? ⟨u5.heap.size, 0, none⟩ = some (.slice ao5 n5 cap5) := by
      rw [EW5.out, EQ5.out]
      exact P_c5.out.cell
    have c_e : (u5.alloc (.cells #[.slice ao5 n5 cap5] 42)).cell? ⟨b_e, 0, none⟩ = some (.slice (some ⟨g2, 0, none⟩) xs.length cap2) := by
      rw [EW5.out]
      exact P_e5.out.cell
    go_wp2_with fail
    rw [EW5.out, EQ5.out]
    refine (CC.out _ _ _ W5 B5.out P_c5.out.sl P_e5.out.sl HCap_e.out).mono ?_
    rintro e u6 ⟨ao6, n6, cap6, rfl, hown, hb⟩
    have hsl := OwnP.sl hown
    have B6 := Lib.hid ((B5.out.trans (hb.mono B5.out.size)).alloc (B5.out.trans (hb.mono B5.out.size)).size (.cells #[.slice ao6 n6 cap6] 42))
    have P_p6 := Lib.hid ((P_p5.out.below hb).alloc (.cells #[.slice ao6 n6 cap6] 42))
    have P_e6 := Lib.hid ((P_e5.out.below hb).alloc (.cells #[.slice ao6 n6 cap6] 42))
    have P_a6 := Lib.hid ((P_a5.out.below hb).alloc (.cells #[.slice ao6 n6 cap6] 42))
    have P_b6 := Lib.hid ((P_b5.out.below hb).alloc (.cells #[.slice ao6 n6 cap6] 42))
    have P_c6 := Lib.hid ((P_c5.out.below hb).alloc (.cells #[.slice ao6 n6 cap6] 42))
    have P_d6 := Lib.hid (PV.new hsl)
    obtain ⟨W6, hW⟩ : ∃ W, u6.alloc (.cells #[.slice ao6 n6 cap6] 42) = W := ⟨_, rfl⟩
    obtain ⟨b_d, hq⟩ : ∃ q, u6.heap.size = q := ⟨_, rfl⟩
    rw [hW] at B6 P_p6 P_e6 P_a6 P_b6 P_c6 P_d6
    rw [hq] at P_d6
    have EW6 := Lib.hid hW
    have EQ6 := Lib.hid hq
    clear hW hq hsl hown hb c_c c_e P_p5 P_e5 P_a5 P_b5 P_c5
    rw [C2] at P_d6
    go_upto_region 9 with fail
    rw [EW6.out, EQ6.out]
    have HX : Hid (∀ W, Below W6.heap.size W6 W → Below w.heap.size w W) := fun W hb => B6.out.trans (hb.mono B6.out.size)
    have HPc : Hid (∀ W, Below W6.heap.size W6 W → PV W b_p (.slice (some ⟨g1, 0, none⟩) b cap1) (mkPic a b f)) := fun W hb => P_p6.out.below hb
    go_cut [15, 16] (fun s8 s9 wx => ∃ (bw : Nat) (kk : Nat → Nat → Bool) (ao : Option Addr) (n cap : Nat), s8 = .pointer (some ⟨bw, 0, none⟩) ∧ s9 = .bool true ∧ PV wx bw (.slice ao n cap) (mkPic a b (joF jF0 (mkPic a b f) (mkPic a b kk))) ∧ Below W6.heap.size W6 wx)
    case first =>
      go_region_held3 (fun w' => w'.cell? ⟨b_p, 0, none⟩ = some (.slice (some ⟨g1, 0, none⟩) b cap1))
        (first | exact (HPc.out _ (Below.refl _ _)).cell | exact (HPc.out _ (Below.refl W6.heap.size W6).drew).cell | exact (HPc.out _ (((Below.refl W6.heap.size W6).drew).alloc (Nat.le_refl _) _)).cell | exact (HPc.out _ hB1).cell | exact (HPc.out _ (hB1.alloc hB1.size _)).cell | exact (HPc.out _ hB2).cell | exact (HPc.out _ (hB2.alloc hB2.size _)).cell | exact (HPc.out _ (hB2.setCell (p := ⟨W6.heap.size, 0, none⟩) (Nat.le_refl _) _)).cell | exact (HPc.out _ (hB2.setCell (p := ⟨wa1.heap.size, 0, none⟩) hB1.size _)).cell)
        (first
          | (go_at_call 28; refine (HBL.out _ f _ (HX.out _ (by first | exact (Below.refl W6.heap.size W6).drew | exact ((Below.refl W6.heap.size W6).drew).alloc (Nat.le_refl _) _)) (HPc.out _ (by first | exact (Below.refl W6.heap.size W6).drew | exact ((Below.refl W6.heap.size W6).drew).alloc (Nat.le_refl _) _)).sl).mono ?_; rintro e wa1 ⟨kk, g1x, cap1x, rfl, hown1, hb1⟩; have hB1 : Below W6.heap.size W6 wa1 := (by first | exact ((Below.refl W6.heap.size W6).drew).trans (hb1.mono (Nat.le_refl _)) | exact (((Below.refl W6.heap.size W6).drew).alloc (Nat.le_refl _) _).trans (hb1.mono (by simp))))
          | (go_at_call 30; refine (CJ.out _ _ f kk _ (HX.out _ (by first | exact hB1 | exact hB1.alloc hB1.size _)) (HPc.out _ (by first | exact hB1 | exact hB1.alloc hB1.size _)).sl (by first | exact OwnP.sl hown1 | exact (OwnP.sl hown1).below (Joins.below_alloc1 _ _))).mono ?_; rintro e wa2 ⟨ao5x, n5x, cap5x, rfl, h5, hb2⟩; have hB2 : Below W6.heap.size W6 wa2 := (by first | exact hB1.trans (hb2.mono hB1.size) | exact (hB1.alloc hB1.size _).trans (hb2.mono (by have := hB1.size; simp; omega))); (first
              | (have hq5 : wa2.heap[wa1.heap.size]? = some (.cells #[.slice none 0 0] 42 (0, 0)) := (hb2.block _ (by simp)).trans (heap_alloc_last wa1 _); have hcq := cell_of_one hq5; have hfq := free_of_one hq5)
              | (have hq5 : wa2.heap[W6.heap.size]? = some (.cells #[.slice none 0 0] 42 (0, 0)) := (hb2.block _ (by have h1 := hb1.size; simp at h1; omega)).trans ((hb1.block _ (by simp)).trans (heap_alloc_last W6.drew _)); have hcq := cell_of_one hq5; have hfq := free_of_one hq5)
              | skip)))
      all_goals (go_wp2_with fail; go_meet)
      all_goals first
        | exact ⟨wa2.heap.size, kk, ao5x, n5x, cap5x, rfl, rfl, PV.new (OwnP.sl h5), hB2.alloc hB2.size _⟩
        | exact ⟨wa1.heap.size, kk, ao5x, n5x, cap5x, rfl, rfl, ⟨one_setCell hq5, OwnP.sl (own_set h5 hq5 (by decide))⟩, hB2.setCell (p := ⟨wa1.heap.size, 0, none⟩) hB1.size _⟩
        | exact ⟨W6.heap.size, kk, ao5x, n5x, cap5x, rfl, rfl, ⟨one_setCell hq5, OwnP.sl (own_set h5 hq5 (by decide))⟩, hB2.setCell (p := ⟨W6.heap.size, 0, none⟩) (Nat.le_refl _) _⟩
    case rest =>
      obtain ⟨b_l, kk, ao7, n7, cap7, rfl, rfl, hpv, hbx⟩ := hcut
      have B7 := Lib.hid (HX.out _ hbx)
      have P_l7 := Lib.hid hpv
      have P_p7 := Lib.hid (P_p6.out.below hbx)
      have P_e7 := Lib.hid (P_e6.out.below hbx)
      have P_a7 := Lib.hid (P_a6.out.below hbx)
      have P_b7 := Lib.hid (P_b6.out.below hbx)
      have P_c7 := Lib.hid (P_c6.out.below hbx)
      have P_d7 := Lib.hid (P_d6.out.below hbx)
      clear hpv hbx HX HPc HBL CJ P_p6 P_e6 P_a6 P_b6 P_c6 P_d6
      have I3k := Lib.hid (I3.out kk)
      obtain ⟨lf, hlf⟩ : ∃ lf, joF jF0 (mkPic a b f) (mkPic a b kk) = lf := ⟨_, rfl⟩
      rw [hlf] at I3k P_l7
      clear hlf I3 O2 C2 hA hB CC
      have c_l := P_l7.out.cell
      have c_e := P_e7.out.cell
      go_wp2_with fail
      refine (CO.out _ _ lf wc B7.out P_l7.out.sl P_e7.out.sl HCap_e.out).mono ?_
      rintro e u8 ⟨ao8, n8, cap8, rfl, hown, hb⟩
      have hsl := OwnP.sl hown
      have B8 := Lib.hid ((B7.out.trans (hb.mono B7.out.size)).alloc (B7.out.trans (hb.mono B7.out.size)).size (.cells #[.slice ao8 n8 cap8] 42))
      have P_p8 := Lib.hid ((P_p7.out.below hb).alloc (.cells #[.slice ao8 n8 cap8] 42))
      have P_e8 := Lib.hid ((P_e7.out.below hb).alloc (.cells #[.slice ao8 n8 cap8] 42))
      have P_a8 := Lib.hid ((P_a7.out.below hb).alloc (.cells #[.slice ao8 n8 cap8] 42))
      have P_b8 := Lib.hid ((P_b7.out.below hb).alloc (.cells #[.slice ao8 n8 cap8] 42))
      have P_c8 := Lib.hid ((P_c7.out.below hb).alloc (.cells #[.slice ao8 n8 cap8] 42))
      have P_d8 := Lib.hid ((P_d7.out.below hb).alloc (.cells #[.slice ao8 n8 cap8] 42))
      have P_l8 := Lib.hid ((P_l7.out.below hb).alloc (.cells #[.slice ao8 n8 cap8] 42))
      have P_o8 := Lib.hid (PV.new hsl)
      obtain ⟨W8, hW⟩ : ∃ W, u8.alloc (.cells #[.slice ao8 n8 cap8] 42) = W := ⟨_, rfl⟩
      obtain ⟨b_o, hq⟩ : ∃ q, u8.heap.size = q := ⟨_, rfl⟩
      rw [hW] at B8 P_p8 P_e8 P_a8 P_b8 P_c8 P_d8 P_l8 P_o8
      rw [hq] at P_o8
      have EW8 := Lib.hid hW
      have EQ8 := Lib.hid hq
      clear hW hq hsl hown hb c_l c_e P_p7 P_e7 P_a7 P_b7 P_c7 P_d7 P_l7
      have c_p : (u8.alloc (.cells #[.slice ao8 n8 cap8] 42)).cell? ⟨b_p, 0, none⟩ = some (.slice (some ⟨g1, 0, none⟩) b cap1) := by
        rw [EW8.out]
        exact P_p8.out.cell
      go_wp2_with fail
      rw [EW8.out, EQ8.out]
      refine (CZ.out _ f W8 B8.out P_p8.out.sl).mono ?_
      rintro e u9 ⟨vz, rfl, hown, hb⟩
      have B9 := Lib.hid (B8.out.trans (hb.mono B8.out.size))
      have P_p9 := Lib.hid (P_p8.out.below hb)
      have P_e9 := Lib.hid (P_e8.out.below hb)
      have P_a9 := Lib.hid (P_a8.out.below hb)
      have P_b9 := Lib.hid (P_b8.out.below hb)
      have P_c9 := Lib.hid (P_c8.out.below hb)
      have P_d9 := Lib.hid (P_d8.out.below hb)
      have P_l9 := Lib.hid (P_l8.out.below hb)
      have P_o9 := Lib.hid (P_o8.out.below hb)
      clear hb c_p P_p8 P_e8 P_a8 P_b8 P_c8 P_d8 P_l8 P_o8
      obtain ⟨bz, oz, cz, rfl, hnm⟩ := (OwnN.sl hown).five hzl
      have P_z9 := Lib.hid hnm
      clear hown hnm
      have c_a := P_a9.out.cell
      have c_b := P_b9.out.cell
      go_wp2_with fail
      refine (CS.out _ _ _ u9 P_a9.out.sl P_b9.out.sl).mono ?_
      rintro e u10 ⟨rfl, hb⟩
      have B10 := Lib.hid (B9.out.trans (hb.mono B9.out.size))
      have P_p10 := Lib.hid (P_p9.out.below hb)
      have P_e10 := Lib.hid (P_e9.out.below hb)
      have P_a10 := Lib.hid (P_a9.out.below hb)
      have P_b10 := Lib.hid (P_b9.out.below hb)
      have P_c10 := Lib.hid (P_c9.out.below hb)
      have P_d10 := Lib.hid (P_d9.out.below hb)
      have P_l10 := Lib.hid (P_l9.out.below hb)
      have P_o10 := Lib.hid (P_o9.out.below hb)
      have P_z10 := Lib.hid (P_z9.out.below hb)
      clear hb c_a c_b P_p9 P_e9 P_a9 P_b9 P_c9 P_d9 P_l9 P_o9 P_z9
      have c_c := P_c10.out.cell
      have c_d := P_d10.out.cell
      go_wp2_with fail
      refine (CS.out _ _ _ u10 P_c10.out.sl P_d10.out.sl).mono ?_
      rintro e u11 ⟨rfl, hb⟩
      have B11 := Lib.hid (B10.out.trans (hb.mono B10.out.size))
      have P_p11 := Lib.hid (P_p10.out.below hb)
      have P_e11 := Lib.hid (P_e10.out.below hb)
      have P_a11 := Lib.hid (P_a10.out.below hb)
      have P_b11 := Lib.hid (P_b10.out.below hb)
      have P_c11 := Lib.hid (P_c10.out.below hb)
      have P_d11 := Lib.hid (P_d10.out.below hb)
      have P_l11 := Lib.hid (P_l10.out.below hb)
      have P_o11 := Lib.hid (P_o10.out.below hb)
      have P_z11 := Lib.hid (P_z10.out.below hb)
      clear hb c_c c_d P_p10 P_e10 P_a10 P_b10 P_c10 P_d10 P_l10 P_o10 P_z10
      have c_a := P_a11.out.cell
      have c_p := P_p11.out.cell
      go_wp2_with fail
      refine (CI.out _ _ _ _ u11 B11.out P_a11.out.sl P_p11.out.sl I1.out).mono ?_
      rintro e u12 ⟨rfl, hb⟩
      have B12 := Lib.hid (B11.out.trans (hb.mono B11.out.size))
      have P_p12 := Lib.hid (P_p11.out.below hb)
      have P_e12 := Lib.hid (P_e11.out.below hb)
      have P_a12 := Lib.hid (P_a11.out.below hb)
      have P_b12 := Lib.hid (P_b11.out.below hb)
      have P_c12 := Lib.hid (P_c11.out.below hb)
      have P_d12 := Lib.hid (P_d11.out.below hb)
      have P_l12 := Lib.hid (P_l11.out.below hb)
      have P_o12 := Lib.hid (P_o11.out.below hb)
      have P_z12 := Lib.hid (P_z11.out.below hb)
      clear hb c_a c_p P_p11 P_e11 P_a11 P_b11 P_c11 P_d11 P_l11 P_o11 P_z11
      have c_p := P_p12.out.cell
      have c_c := P_c12.out.cell
      go_wp2_with fail
      refine (CI.out _ _ _ _ u12 B12.out P_p12.out.sl P_c12.out.sl I2.out).mono ?_
      rintro e u13 ⟨rfl, hb⟩
      have B13 := Lib.hid (B12.out.trans (hb.mono B12.out.size))
      have P_p13 := Lib.hid (P_p12.out.below hb)
      have P_e13 := Lib.hid (P_e12.out.below hb)
      have P_a13 := Lib.hid (P_a12.out.below hb)
      have P_b13 := Lib.hid (P_b12.out.below hb)
      have P_c13 := Lib.hid (P_c12.out.below hb)
      have P_d13 := Lib.hid (P_d12.out.below hb)
      have P_l13 := Lib.hid (P_l12.out.below hb)
      have P_o13 := Lib.hid (P_o12.out.below hb)
      have P_z13 := Lib.hid (P_z12.out.below hb)
      clear hb c_p c_c P_p12 P_e12 P_a12 P_b12 P_c12 P_d12 P_l12 P_o12 P_z12
      have c_o := P_o13.out.cell
      have c_a := P_a13.out.cell
      go_wp2_with fail
      refine (CI.out _ _ _ _ u13 B13.out P_o13.out.sl P_a13.out.sl I3k.out).mono ?_
      rintro e u14 ⟨rfl, hb⟩
      have B14 := Lib.hid (B13.out.trans (hb.mono B13.out.size))
      have P_p14 := Lib.hid (P_p13.out.below hb)
      have P_e14 := Lib.hid (P_e13.out.below hb)
      have P_a14 := Lib.hid (P_a13.out.below hb)
      have P_b14 := Lib.hid (P_b13.out.below hb)
      have P_c14 := Lib.hid (P_c13.out.below hb)
      have P_d14 := Lib.hid (P_d13.out.below hb)
      have P_l14 := Lib.hid (P_l13.out.below hb)
      have P_o14 := Lib.hid (P_o13.out.below hb)
      have P_z14 := Lib.hid (P_z13.out.below hb)
      clear hb c_o c_a P_p13 P_e13 P_a13 P_b13 P_c13 P_d13 P_l13 P_o13 P_z13
      have c_p := P_p14.out.cell
      go_wp2_with fail
      refine (CN.out _ f u14 B14.out P_p14.out.sl).mono ?_
      rintro e u15 ⟨rfl, hb⟩
      have B15 := Lib.hid (B14.out.trans (hb.mono B14.out.size))
      have P_p15 := Lib.hid (P_p14.out.below hb)
      have P_e15 := Lib.hid (P_e14.out.below hb)
      have P_a15 := Lib.hid (P_a14.out.below hb)
      have P_b15 := Lib.hid (P_b14.out.below hb)
      have P_c15 := Lib.hid (P_c14.out.below hb)
      have P_d15 := Lib.hid (P_d14.out.below hb)
      have P_l15 := Lib.hid (P_l14.out.below hb)
      have P_o15 := Lib.hid (P_o14.out.below hb)
      have P_z15 := Lib.hid (P_z14.out.below hb)
      clear hb c_p P_p14 P_e14 P_a14 P_b14 P_c14 P_d14 P_l14 P_o14 P_z14
      have HN : Hid (∀ W i, Below u15.heap.size u15 W → i < 5 → W.cell? ⟨bz, oz + i, none⟩ = some (.int .i64 ((szL (mkPic a b f) 5).getD i 0))) := fun W i hb hi => (P_z15.out.below hb).2 i (by rw [hzl]; exact hi)
      obtain ⟨L, hL⟩ : ∃ L, szL (mkPic a b f) 5 = L := ⟨_, rfl⟩
      obtain ⟨cn, hcn⟩ : ∃ c, cbV (mkPic a b f) = c := ⟨_, rfl⟩
      rw [hL] at HN HZ HZ0
      rw [hcn] at HZ0 ⊢
      have HBe := B15
      clear hL hcn hzl P_p15 P_e15 P_a15 P_b15 P_c15 P_d15 P_l15 P_o15 P_z15 B15 I1 I2 I3k CO CZ CS CI CN HE CL
      go_wp2_with fail
      go_loopw [23] (fun iv wr => ∃ k : Nat, 1 ≤ k ∧ k ≤ 5 ∧ iv = .int .i64 (k : Int) ∧ Hid (Below u15.heap.size u15 wr)) (fun iv _ => 5 - (intOf iv).toNat)
      case atStart => exact ⟨1, by omega, by omega, rfl, Lib.hid (Below.refl _ _)⟩
      case round =>
        obtain ⟨k, hk1, hk5, rfl, HW⟩ := hrel
        by_cases hlt : k < 5
        · have kk : (k : Int) < 5 := by omega
          have k0 : (0 : Int) ≤ (k : Int) := by omega
          obtain ⟨j, hj⟩ : ∃ j, k - 1 = j := ⟨_, rfl⟩
          have kj : (j : Int) < 5 := by omega
          have kw : IntKind.i64.wrap ((k : Int) - 1) = (j : Int) := by rw [show (k : Int) - 1 = (j : Int) from by omega]; exact IntWalk.i64_in _ (by omega)
          have c1 := HN.out _ k HW.out (by omega)
          have c0 := HN.out _ j HW.out (by omega)
          have hz := HZ.out k hk1 (by omega)
          rw [hj] at hz
          obtain ⟨z1, hz1⟩ : ∃ z, L.getD k 0 = z := ⟨_, rfl⟩
          obtain ⟨z0, hz0⟩ : ∃ z, L.getD j 0 = z := ⟨_, rfl⟩
          rw [hz1] at c1 hz
          rw [hz0] at c0 hz
          have q1 : ¬ z0 < z1 := by omega
          have q2 : ¬ z1 < 0 := by omega
          clear hz hz1 hz0 hj
          go_wp2
          go_quiet (fail)
          go_wp2
          go_roundw
          case rel => exact ⟨k + 1, by omega, by omega, by go_num, Lib.hid (⟨HW.out.os, HW.out.tape, HW.out.output, HW.out.size, HW.out.block⟩)⟩
          case measure => simp [intOf]; omega
        · obtain rfl : k = 5 := by omega
          have c0 := HN.out _ 0 HW.out (by omega)
          rw [HZ0.out, Nat.add_zero] at c0
          have kc : (cn == cn) = true := by simp
          go_wp2
          go_ret
          exact ⟨rfl, HBe.out.trans (HW.out.mono HBe.out.size)⟩
end Go.Proofs.YtabkkpifkkgpeaaDoor
