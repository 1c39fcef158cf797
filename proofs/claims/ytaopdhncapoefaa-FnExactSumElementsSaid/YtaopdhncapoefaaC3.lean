/- Contracts of single functions, and plain lemmas, on which the exact laws of this seat rest; each holds under the conditions that it states. -/
import Derived.Test.YtaopdhncapoefaaC2
import Derived.Test.YtaopdhncapoefaaAo
import Derived.Test.YtaopdhncapoefaaA7
import Derived.Test.YtaopdhncapoefaaBk
import Derived.Deep.RegionHeld3
import Derived.Deep.DeepCutAuto
namespace Go.Proofs.Ytaopdhncapoefaa
set_option linter.unusedVariables false
set_option linter.unusedSimpArgs false
open Go.RowKit

theorem suV_len (xs ys : List (Int × Int)) : (suV xs ys).length ≤ 81 := by
  unfold suV
  split
  · exact elL_len _
  · simp
section
/-- a younger or an elder row is kept while another one is written or grows -/
theorem own_besideE {w w' : World} {base base2 n n2 s s2 hi hi2 : Nat} {e e2 : TypeId} {v v2 : Value} {xs xs2 : List Value} (h : w.ownsRow base e s v n xs) (h2 : w.ownsRow base2 e2 s2 v2 n2 xs2) (l1 : ∀ j, v.ownBlock = some j → j < hi) (l2 : ∀ j, v2.ownBlock = some j → j < hi2) (hd : hi ≤ base2 ∨ hi2 ≤ base) (hg : w.grownBy w' v2.ownBlock) : w'.ownsRow base e s v n xs := by
  refine h.kept hg ?_
  rcases h1 : v.ownBlock with _ | j
  · left; rfl
  · right
    intro e1
    have a1 := (h.lt j h1).1
    have a2 := (h2.lt j e1.symm).1
    have a3 := l1 j h1
    have a4 := l2 j e1.symm
    omega

/-- an element in a variable of the call's own; its row was made between the heights lo and hi -/
structure El1 (W : World) (b lo hi : Nat) (u : Value) (xs : List (Int × Int)) : Prop where
  c : W.heap[b]? = some (.cells #[u] 28 (0, 0))
  o : OwnS W lo u xs
  lt : ∀ j, u.ownBlock = some j → j < hi

variable {W W' : World} {b b2 lo lo2 hi hi2 : Nat} {u v0 : Value} {xs ys ms : List (Int × Int)}
theorem El1.below (h : El1 W b lo hi u xs) (hb : Below W.heap.size W W') : El1 W' b lo hi u xs :=
  ⟨(hb.block _ (Array.getElem?_eq_some_iff.1 h.c).1).trans h.c, own_below h.o hb, h.lt⟩
theorem El1.v (h : El1 W b lo hi u xs) : W.cell? ⟨b, 0, none⟩ = some u := cell_of_one h.c
theorem El1.sl (h : El1 W b lo hi u xs) : SlS W u xs := h.o.sl
theorem El1.marked (h : El1 W b lo hi u xs) (ho : OwnS W' lo u ms) (hg : W.grownBy W' u.ownBlock) : El1 W' b lo hi u ms :=
  ⟨var_far h.c h.o (by decide) hg, ho, h.lt⟩
theorem El1.other (h : El1 W b lo hi u xs) (h2 : El1 W b2 lo2 hi2 v0 ys) (hd : hi ≤ lo2 ∨ hi2 ≤ lo) (hg : W.grownBy W' v0.ownBlock) : El1 W' b lo hi u xs :=
  ⟨var_far h.c h2.o (by decide) hg, own_besideE h.o h2.o h.lt h2.lt hd hg, h.lt⟩
theorem El1.grow {w : World} (h : El1 W b lo hi u xs) (hw : w.heap.size ≤ lo) (hb : Below w.heap.size w W) (hg : W.grownBy W' u.ownBlock) : Below w.heap.size w W' :=
  hb.grown hg hb.size (fun k hk => Nat.le_trans hw (h.o.lt k hk).1)
theorem El1.argcell {k : Nat} {x : Value} (h : El1 W b lo hi u xs) (hc : W.cell? ⟨k, 0, none⟩ = some x) (hk : k < lo) (hg : W.grownBy W' u.ownBlock) : W'.cell? ⟨k, 0, none⟩ = some x := by
  rw [World.cell?_of_block (hg.block k (blk_lt hc) (fun e1 => by have := (h.o.lt k e1.symm).1; omega))]; exact hc
/-- it comes -/
theorem El1.new {w : World} {P : List (Int × Int)} (h : OwnS w lo u P) : El1 (w.alloc (.cells #[u] 28)) w.heap.size lo w.heap.size u P :=
  ⟨heap_alloc_last w _, h.alloc _, fun j hj => (h.lt j hj).2⟩
theorem el_set {W : World} {q lo : Nat} {x u : Value} {P : List (Int × Int)} (hq : W.heap[q]? = some (.cells #[x] 28 (0, 0))) (h : OwnS W lo u P) : El1 (W.setCell ⟨q, 0, none⟩ u) q lo W.heap.size u P :=
  ⟨one_setCell hq, own_set h hq (by decide), fun j hj => (h.lt j hj).2⟩
end

set_option maxHeartbeats 12000000 in
set_option maxRecDepth 100000 in
theorem law_SumElements (u v : Value) (ss tt : List (Int × Int)) (w : World) (hN : ss.length ≤ maxLen) (hwf : ∀ p ∈ ss, (Lit.int .i64 p.1).wf = true ∧ (Lit.int .i64 p.2).wf = true) (hu : SlA w u ss) (hN2 : tt.length ≤ maxLen) (hwf2 : ∀ p ∈ tt, (Lit.int .i64 p.1).wf = true ∧ (Lit.int .i64 p.2).wf = true) (hv : SlA w v tt) :
    Calls Try.prog 3 #[.agg #[u], .agg #[v]] w fun e w' => e = .returned (.bool true) ∧ Below w.heap.size w w' := by
  have HSL : Hid (∀ W, Below w.heap.size w W → SlA W u ss) := fun W hb => hu.below hb
  have HSL2 : Hid (∀ W, Below w.heap.size w W → SlA W v tt) := fun W hb => hv.below hb
  have b0 := Joins.below_alloc2 w (.cells #[u] 24) (.cells #[v] 24)
  have hc0 : ((w.alloc (.cells #[u] 24)).alloc (.cells #[v] 24)).cell? ⟨w.heap.size, 0, none⟩ = some u := cell_of_one (t := 24) (by rw [Below.heap_alloc _ _ _ (by simp)]; exact heap_alloc_last w _)
  have hd0 : ((w.alloc (.cells #[u] 24)).alloc (.cells #[v] 24)).cell? ⟨w.heap.size + 1, 0, none⟩ = some v := cell_of_one (heap_alloc2_new _ _ _)
  have C0 := Lib.hid (szElement_any u ss 1048576 _ (by omega) (by omega) hN (HSL.out _ b0))
  have HZ2 : Hid (∀ (left : Int) W, 0 ≤ left → left ≤ 1048576 → Below w.heap.size w W → Calls Try.prog 6 #[.agg #[v], .int .i64 left] W (fun e w' => ∃ r : Int, e = .returned (.int .i64 r) ∧ r ≤ left ∧ -1 ≤ r ∧ (0 ≤ r → (tt.length : Int) ≤ left) ∧ Below W.heap.size W w')) := fun left W h0 h1 hb => szElement_any v tt left W h0 h1 hN2 (HSL2.out _ hb)
  have B0 := Lib.hid b0
  obtain ⟨P, ok, hPl, hS, hI⟩ : ∃ (P : List (Int × Int)) (ok : Bool), P.length ≤ 81 ∧ (ss.length ≤ 1048576 → tt.length ≤ 1048576 → ∀ x y W, SlS W x ss → SlS W y tt → Calls Try.prog 7 #[.agg #[x], .agg #[y]] W (SaysElB P ok W)) ∧ (ss.length ≤ 1048576 → tt.length ≤ 1048576 → ∀ x y W, SlS W x ss → SlS W y tt → Calls Try.prog 9 #[.agg #[x], .agg #[y]] W (SaysElB P ok W)) :=
    ⟨suV ss tt, suOk ss tt, suV_len ss tt, fun h1 h2 x y W hx hy => spec_Sum x y ss tt W h1 h2 hx hy, fun h1 h2 x y W hx hy => impl_Sum x y ss tt W h1 h2 hwf hwf2 hx hy⟩
  have CS := Lib.hid hS
  have CI := Lib.hid hI
  have CE : Hid (∀ x y W, SlS W x P → SlS W y P → Calls Try.prog 10 #[.agg #[x], .agg #[y]] W (SaysB true W)) := fun x y W hx hy => eqElement_same x y P W (by omega) hx hy
  obtain ⟨m, hm0, hM, hH⟩ : ∃ m : Int, 0 ≤ m ∧ (∀ v base W, OwnS W base v P → Calls Try.prog 11 #[.agg #[v], .int .i64 1] W (fun e w' => e = .returned (.int .i64 m) ∧ OwnS w' base v (marksS 1 P.length) ∧ W.grownBy w' v.ownBlock)) ∧ (∀ v W, SlS W v (marksS 1 P.length) → Calls Try.prog 12 #[.agg #[v], .int .i64 1] W (fun e w' => e = .returned (.int .i64 m) ∧ Below W.heap.size W w')) :=
    ⟨((1 + P.length * 2 : Nat) : Int), by omega, fun v base W h => markElement_any v P base 1 W (by omega) (by omega) h, fun v W h => heldElement_any v 1 P.length W (by omega) (by omega) h⟩
  have CM := Lib.hid hM
  have CH := Lib.hid hH
  clear hu hv b0 hS hI hM hH hPl
  go_enter Try.func3, Try.ntmps3
  go_wp2_with fail
  refine C0.out.mono ?_
  rintro e w1 ⟨r, rfl, hr1, hr2, hr3, hb1⟩
  by_cases hr : r < 0
  · have HB1 := Lib.hid hb1
    clear hb1 hr3
    go_wp2_with fail
    go_ret
    exact ⟨rfl, B0.out.trans (HB1.out.mono (by simp; omega))⟩
  · have hsm : ss.length ≤ 1048576 := by have := hr3 (by omega); omega
    have hc1 := cell_kept hb1 hc0
    have hd1 := cell_kept hb1 hd0
    have B1 : Hid (Below w.heap.size w w1) := B0.out.trans (hb1.mono (by simp; omega))
    have l1 : w.heap.size + 1 < w1.heap.size := by have := hb1.size; simp at this; omega
    clear hb1 hr3 hr2 hc0 hd0
    go_wp2_with fail
    refine (HZ2.out r _ (by omega) hr1 B1.out).mono ?_
    rintro e w2 ⟨r2, rfl, hq1, hq2, hq3, hb2⟩
    by_cases hr' : r2 < 0
    · have HB2 := Lib.hid hb2
      clear hb2 hq3
      go_wp2_with fail
      go_ret
      exact ⟨rfl, B1.out.trans (HB2.out.mono B1.out.size)⟩
    · have hsm2 : tt.length ≤ 1048576 := by have := hq3 (by omega); omega
      have hc2 := cell_kept hb2 hc1
      have hd2 := cell_kept hb2 hd1
      have B2 : Hid (Below w.heap.size w w2) := B1.out.trans (hb2.mono B1.out.size)
      have l2 : w.heap.size + 1 < w2.heap.size := Nat.lt_of_lt_of_le l1 hb2.size
      have HX : Hid (∀ W, Below w2.heap.size w2 W → W.cell? ⟨w.heap.size, 0, none⟩ = some u ∧ W.cell? ⟨w.heap.size + 1, 0, none⟩ = some v) := fun W hb => ⟨cell_kept hb hc2, cell_kept hb hd2⟩
      have HT1 : Hid (∀ W, Below w2.heap.size w2 W → Calls Try.prog 8 #[.agg #[u]] W (TookEl W ss)) := fun W hb => toElement_any u ss W hsm (HSL.out _ (B2.out.trans (hb.mono B2.out.size)))
      have HT2 : Hid (∀ W, Below w2.heap.size w2 W → Calls Try.prog 8 #[.agg #[v]] W (TookEl W tt)) := fun W hb => toElement_any v tt W hsm2 (HSL2.out _ (B2.out.trans (hb.mono B2.out.size)))
      obtain ⟨m1, q1, hm1, hq1m, hqb, hM1⟩ : ∃ (m1 : Int) (q1 : Nat), 0 ≤ m1 ∧ m1 = ((q1 : Nat) : Int) ∧ (1 ≤ q1 ∧ q1 ≤ 3000000) ∧ (∀ v base W, OwnS W base v ss → Calls Try.prog 11 #[.agg #[v], .int .i64 1] W (fun e w' => e = .returned (.int .i64 m1) ∧ OwnS w' base v (marksS 1 ss.length) ∧ W.grownBy w' v.ownBlock)) :=
        ⟨((1 + ss.length * 2 : Nat) : Int), 1 + ss.length * 2, by omega, rfl, by omega, fun v base W h => markElement_any v ss base 1 W (by omega) (by omega) h⟩
      obtain ⟨m2, hm2, hM2⟩ : ∃ m2 : Int, 0 ≤ m2 ∧ (∀ v base W, OwnS W base v tt → Calls Try.prog 11 #[.agg #[v], .int .i64 m1] W (fun e w' => e = .returned (.int .i64 m2) ∧ OwnS w' base v (marksS q1 tt.length) ∧ W.grownBy w' v.ownBlock)) :=
        ⟨((q1 + tt.length * 2 : Nat) : Int), by omega, fun v base W h => by rw [hq1m]; exact markElement_any v tt base q1 W hqb.1 (by have := hqb.2; omega) h⟩
      have CE1 : Hid (∀ x y W, SlS W x ss → SlS W y ss → Calls Try.prog 10 #[.agg #[x], .agg #[y]] W (SaysB true W)) := fun x y W hx hy => eqElement_same x y ss W hsm hx hy
      have CE2 : Hid (∀ x y W, SlS W x tt → SlS W y tt → Calls Try.prog 10 #[.agg #[x], .agg #[y]] W (SaysB true W)) := fun x y W hx hy => eqElement_same x y tt W hsm2 hx hy
      have CSm := Lib.hid (CS.out hsm hsm2)
      have CIm := Lib.hid (CI.out hsm hsm2)
      have CM1 := Lib.hid hM1
      have CM2 := Lib.hid hM2
      clear hb2 hq3 hq2 hq1 hr1 hc1 hd1 hM1 hM2 hq1m hqb
      go_upto_region 8 with fail
      go_cut [6, 7] (fun s8 s9 wx => ∃ (bw : Nat) (ao : Option Addr) (n cap lo hi : Nat), s8 = .pointer (some ⟨bw, 0, none⟩) ∧ s9 = .bool ok ∧ El1 wx bw lo hi (.slice ao n cap) P ∧ Below w2.heap.size w2 wx ∧ w2.heap.size ≤ lo ∧ hi ≤ wx.heap.size)
      case first =>
        go_region_held3 (fun w' => w'.cell? ⟨w.heap.size, 0, none⟩ = some u ∧ w'.cell? ⟨w.heap.size + 1, 0, none⟩ = some v)
          (first | exact HX.out _ (Below.refl _ _) | exact HX.out _ (Below.refl w2.heap.size w2).drew | exact HX.out _ (((Below.refl w2.heap.size w2).drew).alloc (Nat.le_refl _) _) | exact HX.out _ hB3 | exact HX.out _ (hB3.alloc hB3.size _) | exact HX.out _ hB4 | exact HX.out _ (hB4.alloc hB4.size _) | exact HX.out _ hB5 | exact HX.out _ (hB5.alloc hB5.size _) | exact HX.out _ (hB5.setCell (p := ⟨w2.heap.size, 0, none⟩) (Nat.le_refl _) _) | exact HX.out _ (hB5.setCell (p := ⟨wa3.heap.size, 0, none⟩) hB3.size _) | exact HX.out _ (hB5.setCell (p := ⟨wa4.heap.size, 0, none⟩) hB4.size _))
          (first
            | (go_at_call 8; refine (HT1.out _ (by first | exact (Below.refl w2.heap.size w2).drew | exact ((Below.refl w2.heap.size w2).drew).alloc (Nat.le_refl _) _)).mono ?_; rintro e wa3 ⟨g3, cap3, rfl, hown3, hb3⟩; have hB3 : Below w2.heap.size w2 wa3 := (by first | exact ((Below.refl w2.heap.size w2).drew).trans (hb3.mono (Nat.le_refl _)) | exact (((Below.refl w2.heap.size w2).drew).alloc (Nat.le_refl _) _).trans (hb3.mono (by simp))))
            | (go_at_call 8; refine (HT2.out _ (by first | exact hB3 | exact hB3.alloc hB3.size _)).mono ?_; rintro e wa4 ⟨g4, cap4, rfl, hown4, hb4⟩; have hB4 : Below w2.heap.size w2 wa4 := (by first | exact hB3.trans (hb4.mono hB3.size) | exact (hB3.alloc hB3.size _).trans (hb4.mono (by have := hB3.size; simp; omega))))
            | (go_at_call 7; refine (CSm.out _ _ _ (by first | exact hown3.sl.below hb4 | exact (hown3.sl.below (Joins.below_alloc1 _ _)).below hb4 | exact (hown3.sl.below hb4).below (Joins.below_alloc1 _ _)) (by first | exact hown4.sl | exact hown4.sl.below (Joins.below_alloc1 _ _))).mono ?_; rintro e wa5 ⟨ao5, n5, cap5, rfl, h5, hb5⟩; have hB5 : Below w2.heap.size w2 wa5 := (by first | exact hB4.trans (hb5.mono hB4.size) | exact (hB4.alloc hB4.size _).trans (hb5.mono (by have := hB4.size; simp; omega))); (first
                | (have hq5 : wa5.heap[wa4.heap.size]? = some (.cells #[.slice none 0 0] 28 (0, 0)) := (hb5.block _ (by simp)).trans (heap_alloc_last wa4 _); have hcq := cell_of_one hq5; have hfq := free_of_one hq5)
                | (have hq5 : wa5.heap[wa3.heap.size]? = some (.cells #[.slice none 0 0] 28 (0, 0)) := (hb5.block _ (by have := hb4.size; simp at this; omega)).trans ((hb4.block _ (by simp)).trans (heap_alloc_last wa3 _)); have hcq := cell_of_one hq5; have hfq := free_of_one hq5)
                | (have hq5 : wa5.heap[w2.heap.size]? = some (.cells #[.slice none 0 0] 28 (0, 0)) := (hb5.block _ (by have h1 := hb4.size; have h2 := hb3.size; simp at h2; omega)).trans ((hb4.block _ (by have h2 := hb3.size; simp at h2; omega)).trans ((hb3.block _ (by simp)).trans (heap_alloc_last w2.drew _))); have hcq := cell_of_one hq5; have hfq := free_of_one hq5)
                | skip)))
        all_goals (go_wp2_with fail; go_meet)
        all_goals first
          | exact ⟨wa5.heap.size, ao5, n5, cap5, wa4.heap.size, wa5.heap.size, rfl, rfl, El1.new h5, hB5.alloc hB5.size _, hB4.size, by simp⟩
          | exact ⟨wa4.heap.size, ao5, n5, cap5, _, wa5.heap.size, rfl, rfl, el_set ((hb5.block _ (by simp)).trans (heap_alloc_last wa4 _)) h5, hB5.setCell (p := ⟨wa4.heap.size, 0, none⟩) hB4.size _, by have := hB4.size; simp; omega, by simp [World.setCell]⟩
          | exact ⟨wa3.heap.size, ao5, n5, cap5, _, wa5.heap.size, rfl, rfl, el_set ((hb5.block _ (by have := hb4.size; simp at this; omega)).trans ((hb4.block _ (by simp)).trans (heap_alloc_last wa3 _))) h5, hB5.setCell (p := ⟨wa3.heap.size, 0, none⟩) hB3.size _, hB4.size, by simp [World.setCell]⟩
          | exact ⟨w2.heap.size, ao5, n5, cap5, _, wa5.heap.size, rfl, rfl, el_set ((hb5.block _ (by have h1 := hb4.size; have h2 := hb3.size; simp at h2; omega)).trans ((hb4.block _ (by have h2 := hb3.size; simp at h2; omega)).trans ((hb3.block _ (by simp)).trans (heap_alloc_last w2.drew _)))) h5, hB5.setCell (p := ⟨w2.heap.size, 0, none⟩) (Nat.le_refl _) _, hB4.size, by simp [World.setCell]⟩
      obtain ⟨b5, ao5, n5, cap5, lo5, hi5, rfl, rfl, hp5, hb25, hlo, hhi⟩ := hcut
      have PW5 := Lib.hid hp5
      have B5 : Hid (Below w.heap.size w wc) := B2.out.trans (hb25.mono B2.out.size)
      have hcd5 := HX.out _ hb25
      have hc5 := hcd5.1
      have hd5 := hcd5.2
      have lw : w2.heap.size ≤ wc.heap.size := hb25.size
      clear hb25 hcd5 HX hc2 hd2 HT1 HT2 hp5
      go_wp2_with fail
      refine (toElement_any u ss _ hsm (HSL.out _ B5.out)).mono ?_
      rintro e w6 ⟨g6, cap6, rfl, hown6, hb6⟩
      have X6 := Lib.hid (El1.new hown6)
      have l56 : wc.heap.size ≤ w6.heap.size := hb6.size
      have hba := hb6.trans ((Joins.below_alloc1 w6 (.cells #[.slice (some ⟨g6, 0, none⟩) ss.length cap6] 28)).mono hb6.size)
      have PW6 := Lib.hid (PW5.out.below hba)
      have B6 := Lib.hid (B5.out.trans (hba.mono B5.out.size))
      have hc6 := cell_kept hba hc5
      have hd6 := cell_kept hba hd5
      clear hb6 hba hown6 hc5 hd5 PW5
      go_wp2_with fail
      refine (toElement_any v tt _ hsm2 (HSL2.out _ B6.out)).mono ?_
      rintro e w7 ⟨g7, cap7, rfl, hown7, hb7⟩
      have Y7 := Lib.hid (El1.new hown7)
      have l67 : w6.heap.size + 1 ≤ w7.heap.size := by have := hb7.size; simpa using this
      have hba := hb7.trans ((Joins.below_alloc1 w7 (.cells #[.slice (some ⟨g7, 0, none⟩) tt.length cap7] 28)).mono hb7.size)
      have X7 := Lib.hid (X6.out.below hba)
      have PW7 := Lib.hid (PW6.out.below hba)
      have B7 := Lib.hid (B6.out.trans (hba.mono B6.out.size))
      have hc7 := cell_kept hba hc6
      have hd7 := cell_kept hba hd6
      have x7 := X7.out.v
      have y7 := Y7.out.v
      clear hb7 hba hown7 hc6 hd6 X6 PW6
      go_wp2_with fail
      refine (CIm.out _ _ _ X7.out.sl Y7.out.sl).mono ?_
      rintro e w8 ⟨ao8, n8, cap8, rfl, h8, hb8⟩
      have G8 := Lib.hid (El1.new h8)
      have l78 : w7.heap.size + 1 ≤ w8.heap.size := by have := hb8.size; simpa using this
      have hba := hb8.trans ((Joins.below_alloc1 w8 (.cells #[.slice ao8 n8 cap8] 28)).mono hb8.size)
      have X8 := Lib.hid (X7.out.below hba)
      have Y8 := Lib.hid (Y7.out.below hba)
      have PW8 := Lib.hid (PW7.out.below hba)
      have B8 := Lib.hid (B7.out.trans (hba.mono B7.out.size))
      have hc8 := cell_kept hba hc7
      have hd8 := cell_kept hba hd7
      have gv := G8.out.v
      have pv := PW8.out.v
      clear hb8 hba h8 hc7 hd7 X7 Y7 PW7 x7 y7
      go_wp2_with fail
      refine (CE.out _ _ _ G8.out.sl PW8.out.sl).mono ?_
      rintro e w9 ⟨rfl, hb9⟩
      have G9 := Lib.hid (G8.out.below hb9)
      have X9 := Lib.hid (X8.out.below hb9)
      have Y9 := Lib.hid (Y8.out.below hb9)
      have PW9 := Lib.hid (PW8.out.below hb9)
      have B9 := Lib.hid (B8.out.trans (hb9.mono B8.out.size))
      have hc9 := cell_kept hb9 hc8
      have hd9 := cell_kept hb9 hd8
      have HX : Hid (∀ W, Below w9.heap.size w9 W → W.cell? ⟨w.heap.size, 0, none⟩ = some u ∧ W.cell? ⟨w6.heap.size, 0, none⟩ = some (.slice (some ⟨g6, 0, none⟩) ss.length cap6)) := fun W hb => ⟨cell_kept hb hc9, (X9.out.below hb).v⟩
      have HT1 : Hid (∀ W, Below w9.heap.size w9 W → Calls Try.prog 8 #[.agg #[u]] W (TookEl W ss)) := fun W hb => toElement_any u ss W hsm (HSL.out _ (B9.out.trans (hb.mono B9.out.size)))
      have HE1 : Hid (∀ W x, Below w9.heap.size w9 W → SlS W x ss → Calls Try.prog 10 #[.agg #[.slice (some ⟨g6, 0, none⟩) ss.length cap6], .agg #[x]] W (SaysB true W)) := fun W x hb hx => CE1.out _ x W (X9.out.below hb).sl hx
      clear hb9 hc8 hd8 G8 X8 Y8 PW8 gv pv
      go_wp2_with fail
      go_region_held3 (fun w' => w'.cell? ⟨w.heap.size, 0, none⟩ = some u ∧ w'.cell? ⟨w6.heap.size, 0, none⟩ = some (.slice (some ⟨g6, 0, none⟩) ss.length cap6))
        (first | exact HX.out _ (Below.refl _ _) | exact HX.out _ (Below.refl _ _).drew | exact HX.out _ ((Below.refl _ _).drew.trans hba) | exact HX.out _ (((Below.refl _ _).drew.trans hba).trans (hbb.mono hba.size)))
        (first | (go_at_call 8; refine (HT1.out _ (Below.refl _ _).drew).mono ?_; rintro e w10 ⟨ga, capa, rfl, howna, hba⟩) | (go_at_call 10; refine (HE1.out _ _ ((Below.refl _ _).drew.trans hba) howna.sl).mono ?_; rintro e w11 ⟨rfl, hbb⟩))
      have hbc := (Below.refl w9.heap.size w9).drew.trans (hba.trans (hbb.mono hba.size))
      have G11 := Lib.hid (G9.out.below hbc)
      have X11 := Lib.hid (X9.out.below hbc)
      have Y11 := Lib.hid (Y9.out.below hbc)
      have PW11 := Lib.hid (PW9.out.below hbc)
      have B11 : Hid (Below w.heap.size w w11) := B9.out.trans (hbc.mono B9.out.size)
      have hc11 := cell_kept hbc hc9
      have hd11 := cell_kept hbc hd9
      have HX2 : Hid (∀ W, Below w11.heap.size w11 W → W.cell? ⟨w.heap.size + 1, 0, none⟩ = some v ∧ W.cell? ⟨w7.heap.size, 0, none⟩ = some (.slice (some ⟨g7, 0, none⟩) tt.length cap7)) := fun W hb => ⟨cell_kept hb hd11, (Y11.out.below hb).v⟩
      have HT2 : Hid (∀ W, Below w11.heap.size w11 W → Calls Try.prog 8 #[.agg #[v]] W (TookEl W tt)) := fun W hb => toElement_any v tt W hsm2 (HSL2.out _ (B11.out.trans (hb.mono B11.out.size)))
      have HE2 : Hid (∀ W x, Below w11.heap.size w11 W → SlS W x tt → Calls Try.prog 10 #[.agg #[.slice (some ⟨g7, 0, none⟩) tt.length cap7], .agg #[x]] W (SaysB true W)) := fun W x hb hx => CE2.out _ x W (Y11.out.below hb).sl hx
      clear hba hbb hbc howna hc9 hd9 HX HT1 HE1 G9 X9 Y9 PW9
      go_wp2_with fail
      go_region_held3 (fun w' => w'.cell? ⟨w.heap.size + 1, 0, none⟩ = some v ∧ w'.cell? ⟨w7.heap.size, 0, none⟩ = some (.slice (some ⟨g7, 0, none⟩) tt.length cap7))
        (first | exact HX2.out _ (Below.refl _ _) | exact HX2.out _ (Below.refl _ _).drew | exact HX2.out _ ((Below.refl _ _).drew.trans hba) | exact HX2.out _ (((Below.refl _ _).drew.trans hba).trans (hbb.mono hba.size)))
        (first | (go_at_call 8; refine (HT2.out _ (Below.refl _ _).drew).mono ?_; rintro e w12 ⟨ga, capa, rfl, howna, hba⟩) | (go_at_call 10; refine (HE2.out _ _ ((Below.refl _ _).drew.trans hba) howna.sl).mono ?_; rintro e w13 ⟨rfl, hbb⟩))
      have hbc := (Below.refl w11.heap.size w11).drew.trans (hba.trans (hbb.mono hba.size))
      have G13 := Lib.hid (G11.out.below hbc)
      have X13 := Lib.hid (X11.out.below hbc)
      have Y13 := Lib.hid (Y11.out.below hbc)
      have PW13 := Lib.hid (PW11.out.below hbc)
      have B13 : Hid (Below w.heap.size w w13) := B11.out.trans (hbc.mono B11.out.size)
      have hc13 := cell_kept hbc hc11
      have hd13 := cell_kept hbc hd11
      have xv := X13.out.v
      clear hba hbb hbc howna hc11 hd11 HX2 HT2 HE2 G11 X11 Y11 PW11
      go_wp2_with fail
      refine (CM1.out _ _ _ X13.out.o).mono ?_
      rintro e w14 ⟨rfl, ho, hg⟩
      have X14 := Lib.hid (X13.out.marked ho hg)
      have PW14 := Lib.hid (PW13.out.other X13.out (Or.inl hhi) hg)
      have Y14 := Lib.hid (Y13.out.other X13.out (Or.inr (by simp)) hg)
      have G14 := Lib.hid (G13.out.other X13.out (Or.inr (by simp; omega)) hg)
      have B14 := Lib.hid (X13.out.grow B5.out.size B13.out hg)
      have hc14 := X13.out.argcell hc13 (by omega) hg
      have hd14 := X13.out.argcell hd13 (by omega) hg
      have yv := Y14.out.v
      clear ho hg hc13 hd13 xv X13 PW13 Y13 G13
      go_wp2_with fail
      refine (CM2.out _ _ _ Y14.out.o).mono ?_
      rintro e w15 ⟨rfl, ho, hg⟩
      have PW15 := Lib.hid (PW14.out.other Y14.out (Or.inl (by simp; omega)) hg)
      have G15 := Lib.hid (G14.out.other Y14.out (Or.inr (by simp)) hg)
      have B15 := Lib.hid (Y14.out.grow B6.out.size B14.out hg)
      have hc15 := Y14.out.argcell hc14 (by simp; omega) hg
      have hd15 := Y14.out.argcell hd14 (by simp; omega) hg
      have gv := G15.out.v
      have pv := PW15.out.v
      clear ho hg hc14 hd14 yv X14 PW14 Y14 G14
      go_wp2_with fail
      refine (CE.out _ _ _ G15.out.sl PW15.out.sl).mono ?_
      rintro e w16 ⟨rfl, hb16⟩
      have G16 := Lib.hid (G15.out.below hb16)
      have PW16 := Lib.hid (PW15.out.below hb16)
      have B16 := Lib.hid (B15.out.trans (hb16.mono B15.out.size))
      have hc16 := cell_kept hb16 hc15
      have hd16 := cell_kept hb16 hd15
      have gw := G16.out.v
      clear hb16 hc15 hd15 gv pv G15 PW15
      go_wp2_with fail
      refine (CM.out _ _ _ G16.out.o).mono ?_
      rintro e w17 ⟨rfl, ho, hg⟩
      have G17 := Lib.hid (G16.out.marked ho hg)
      have PW17 := Lib.hid (PW16.out.other G16.out (Or.inl (by simp; omega)) hg)
      have B17 := Lib.hid (G16.out.grow B7.out.size B16.out hg)
      have hc17 := G16.out.argcell hc16 (by simp; omega) hg
      have hd17 := G16.out.argcell hd16 (by simp; omega) hg
      have gx := G17.out.v
      clear ho hg hc16 hd16 gw G16 PW16
      go_wp2_with fail
      refine (CH.out _ _ G17.out.sl).mono ?_
      rintro e w18 ⟨rfl, hb18⟩
      have G18 := Lib.hid (G17.out.below hb18)
      have PW18 := Lib.hid (PW17.out.below hb18)
      have B18 := Lib.hid (B17.out.trans (hb18.mono B17.out.size))
      have hc18 := cell_kept hb18 hc17
      have hd18 := cell_kept hb18 hd17
      have HX : Hid (∀ W, Below w18.heap.size w18 W → W.cell? ⟨w.heap.size, 0, none⟩ = some u ∧ W.cell? ⟨w.heap.size + 1, 0, none⟩ = some v) := fun W hb => ⟨cell_kept hb hc18, cell_kept hb hd18⟩
      have HT1 : Hid (∀ W, Below w18.heap.size w18 W → Calls Try.prog 8 #[.agg #[u]] W (TookEl W ss)) := fun W hb => toElement_any u ss W hsm (HSL.out _ (B18.out.trans (hb.mono B18.out.size)))
      have HT2 : Hid (∀ W, Below w18.heap.size w18 W → Calls Try.prog 8 #[.agg #[v]] W (TookEl W tt)) := fun W hb => toElement_any v tt W hsm2 (HSL2.out _ (B18.out.trans (hb.mono B18.out.size)))
      clear hb18 hc17 hd17 gx G17 PW17
      go_upto_region 31 with fail
      go_cut [15, 16] (fun s8 s9 wx => ∃ (bw : Nat) (ao : Option Addr) (n cap lo hi : Nat), s8 = .pointer (some ⟨bw, 0, none⟩) ∧ s9 = .bool ok ∧ El1 wx bw lo hi (.slice ao n cap) P ∧ Below w18.heap.size w18 wx ∧ w18.heap.size ≤ lo ∧ hi ≤ wx.heap.size)
      case first =>
        go_region_held3 (fun w' => w'.cell? ⟨w.heap.size, 0, none⟩ = some u ∧ w'.cell? ⟨w.heap.size + 1, 0, none⟩ = some v)
          (first | exact HX.out _ (Below.refl _ _) | exact HX.out _ (Below.refl w18.heap.size w18).drew | exact HX.out _ (((Below.refl w18.heap.size w18).drew).alloc (Nat.le_refl _) _) | exact HX.out _ hB3 | exact HX.out _ (hB3.alloc hB3.size _) | exact HX.out _ hB4 | exact HX.out _ (hB4.alloc hB4.size _) | exact HX.out _ hB5 | exact HX.out _ (hB5.alloc hB5.size _) | exact HX.out _ (hB5.setCell (p := ⟨w18.heap.size, 0, none⟩) (Nat.le_refl _) _) | exact HX.out _ (hB5.setCell (p := ⟨wa3.heap.size, 0, none⟩) hB3.size _) | exact HX.out _ (hB5.setCell (p := ⟨wa4.heap.size, 0, none⟩) hB4.size _))
          (first
            | (go_at_call 8; refine (HT1.out _ (by first | exact (Below.refl w18.heap.size w18).drew | exact ((Below.refl w18.heap.size w18).drew).alloc (Nat.le_refl _) _)).mono ?_; rintro e wa3 ⟨g3, cap3, rfl, hown3, hb3⟩; have hB3 : Below w18.heap.size w18 wa3 := (by first | exact ((Below.refl w18.heap.size w18).drew).trans (hb3.mono (Nat.le_refl _)) | exact (((Below.refl w18.heap.size w18).drew).alloc (Nat.le_refl _) _).trans (hb3.mono (by simp))))
            | (go_at_call 8; refine (HT2.out _ (by first | exact hB3 | exact hB3.alloc hB3.size _)).mono ?_; rintro e wa4 ⟨g4, cap4, rfl, hown4, hb4⟩; have hB4 : Below w18.heap.size w18 wa4 := (by first | exact hB3.trans (hb4.mono hB3.size) | exact (hB3.alloc hB3.size _).trans (hb4.mono (by have := hB3.size; simp; omega))))
            | (go_at_call 9; refine (CIm.out _ _ _ (by first | exact hown3.sl.below hb4 | exact (hown3.sl.below (Joins.below_alloc1 _ _)).below hb4 | exact (hown3.sl.below hb4).below (Joins.below_alloc1 _ _)) (by first | exact hown4.sl | exact hown4.sl.below (Joins.below_alloc1 _ _))).mono ?_; rintro e wa5 ⟨ao5, n5, cap5, rfl, h5, hb5⟩; have hB5 : Below w18.heap.size w18 wa5 := (by first | exact hB4.trans (hb5.mono hB4.size) | exact (hB4.alloc hB4.size _).trans (hb5.mono (by have := hB4.size; simp; omega))); (first
                | (have hq5 : wa5.heap[wa4.heap.size]? = some (.cells #[.slice none 0 0] 28 (0, 0)) := (hb5.block _ (by simp)).trans (heap_alloc_last wa4 _); have hcq := cell_of_one hq5; have hfq := free_of_one hq5)
                | (have hq5 : wa5.heap[wa3.heap.size]? = some (.cells #[.slice none 0 0] 28 (0, 0)) := (hb5.block _ (by have := hb4.size; simp at this; omega)).trans ((hb4.block _ (by simp)).trans (heap_alloc_last wa3 _)); have hcq := cell_of_one hq5; have hfq := free_of_one hq5)
                | (have hq5 : wa5.heap[w18.heap.size]? = some (.cells #[.slice none 0 0] 28 (0, 0)) := (hb5.block _ (by have h1 := hb4.size; have h2 := hb3.size; simp at h2; omega)).trans ((hb4.block _ (by have h2 := hb3.size; simp at h2; omega)).trans ((hb3.block _ (by simp)).trans (heap_alloc_last w18.drew _))); have hcq := cell_of_one hq5; have hfq := free_of_one hq5)
                | skip)))
        all_goals (go_wp2_with fail; go_meet)
        all_goals first
          | exact ⟨wa5.heap.size, ao5, n5, cap5, wa4.heap.size, wa5.heap.size, rfl, rfl, El1.new h5, hB5.alloc hB5.size _, hB4.size, by simp⟩
          | exact ⟨wa4.heap.size, ao5, n5, cap5, _, wa5.heap.size, rfl, rfl, el_set ((hb5.block _ (by simp)).trans (heap_alloc_last wa4 _)) h5, hB5.setCell (p := ⟨wa4.heap.size, 0, none⟩) hB4.size _, by have := hB4.size; simp; omega, by simp [World.setCell]⟩
          | exact ⟨wa3.heap.size, ao5, n5, cap5, _, wa5.heap.size, rfl, rfl, el_set ((hb5.block _ (by have := hb4.size; simp at this; omega)).trans ((hb4.block _ (by simp)).trans (heap_alloc_last wa3 _))) h5, hB5.setCell (p := ⟨wa3.heap.size, 0, none⟩) hB3.size _, hB4.size, by simp [World.setCell]⟩
          | exact ⟨w18.heap.size, ao5, n5, cap5, _, wa5.heap.size, rfl, rfl, el_set ((hb5.block _ (by have h1 := hb4.size; have h2 := hb3.size; simp at h2; omega)).trans ((hb4.block _ (by have h2 := hb3.size; simp at h2; omega)).trans ((hb3.block _ (by simp)).trans (heap_alloc_last w18.drew _)))) h5, hB5.setCell (p := ⟨w18.heap.size, 0, none⟩) (Nat.le_refl _) _, hB4.size, by simp [World.setCell]⟩
      obtain ⟨b21, ao9, n9, cap9, lo9, hi9, rfl, rfl, hp9, hbx, hlo9, hhi9⟩ := hcut
      have H21 := Lib.hid hp9
      have G21 := Lib.hid (G18.out.below hbx)
      have PW21 := Lib.hid (PW18.out.below hbx)
      have B21 := Lib.hid (B18.out.trans (hbx.mono B18.out.size))
      have hv21 := H21.out.v
      have pw21 := PW21.out.v
      clear hbx hp9 HX HT1 HT2 hc18 hd18 G18 PW18
      go_wp2_with fail
      refine (CE.out _ _ _ H21.out.sl PW21.out.sl).mono ?_
      rintro e w22 ⟨rfl, hb22⟩
      have G22 := Lib.hid (G21.out.below hb22)
      have B22 := Lib.hid (B21.out.trans (hb22.mono B21.out.size))
      have gz := G22.out.v
      clear hb22 hv21 pw21 H21 G21 PW21
      go_wp2_with fail
      refine (CH.out _ _ G22.out.sl).mono ?_
      rintro e w23 ⟨rfl, hb23⟩
      have B23 := Lib.hid (B22.out.trans (hb23.mono B22.out.size))
      clear hb23 gz
      go_wp2
      go_ret
      exact ⟨rfl, B23.out⟩
end Go.Proofs.Ytaopdhncapoefaa
