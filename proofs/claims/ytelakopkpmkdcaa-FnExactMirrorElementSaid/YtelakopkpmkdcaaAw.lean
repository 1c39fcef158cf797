/- Contracts of single functions, and plain lemmas, on which the exact laws of this seat rest; each holds under the conditions that it states. -/
import Derived.Test.YtelakopkpmkdcaaAv
import Derived.Test.YtelakopkpmkdcaaAo
import Derived.Test.YtelakopkpmkdcaaA7
import Derived.Deep.RegionHeld3
namespace Go.Proofs.Ytelakopkpmkdcaa
set_option linter.unusedVariables false
set_option linter.unusedSimpArgs false
open Go.RowKit

section
/-- want, the argument's copy and got: each in a variable of its own, made one after the other -/
structure ThreeEls (W : World) (b1 b2 b3 lo h2 h3 : Nat) (u v x : Value) (xs ys zs : List (Int × Int)) : Prop where
  c1 : W.heap[b1]? = some (.cells #[u] 24 (0, 0))
  c2 : W.heap[b2]? = some (.cells #[v] 24 (0, 0))
  c3 : W.heap[b3]? = some (.cells #[x] 24 (0, 0))
  o1 : OwnS W lo u xs
  o2 : OwnS W h2 v ys
  o3 : OwnS W h3 x zs
  lt1 : ∀ j, u.ownBlock = some j → j < h2
  lt2 : ∀ j, v.ownBlock = some j → j < h3
  le : h2 ≤ h3

variable {W W' : World} {b1 b2 b3 lo h2 h3 : Nat} {u v x : Value} {xs ys zs ms : List (Int × Int)}
theorem ThreeEls.below (h : ThreeEls W b1 b2 b3 lo h2 h3 u v x xs ys zs) (hb : Below W.heap.size W W') : ThreeEls W' b1 b2 b3 lo h2 h3 u v x xs ys zs :=
  ⟨(hb.block _ (Array.getElem?_eq_some_iff.1 h.c1).1).trans h.c1, (hb.block _ (Array.getElem?_eq_some_iff.1 h.c2).1).trans h.c2, (hb.block _ (Array.getElem?_eq_some_iff.1 h.c3).1).trans h.c3, own_below h.o1 hb, own_below h.o2 hb, own_below h.o3 hb, h.lt1, h.lt2, h.le⟩

theorem ThreeEls.mark2 (h : ThreeEls W b1 b2 b3 lo h2 h3 u v x xs ys zs) (ho : OwnS W' h2 v ms) (hg : W.grownBy W' v.ownBlock) : ThreeEls W' b1 b2 b3 lo h2 h3 u v x xs ms zs :=
  ⟨var_far h.c1 h.o2 (by decide) hg, var_far h.c2 h.o2 (by decide) hg, var_far h.c3 h.o2 (by decide) hg, own_apart (k := 0) h.o1 h.o2 h.lt1 hg, ho, own_apart' h.o3 h.o2 h.lt2 hg, h.lt1, h.lt2, h.le⟩
theorem ThreeEls.mark3 (h : ThreeEls W b1 b2 b3 lo h2 h3 u v x xs ys zs) (ho : OwnS W' h3 x ms) (hg : W.grownBy W' x.ownBlock) : ThreeEls W' b1 b2 b3 lo h2 h3 u v x xs ys ms :=
  ⟨var_far h.c1 h.o3 (by decide) hg, var_far h.c2 h.o3 (by decide) hg, var_far h.c3 h.o3 (by decide) hg, own_apart (k := 0) h.o1 h.o3 (fun j hj => Nat.lt_of_lt_of_le (h.lt1 j hj) h.le) hg, own_apart (k := 0) h.o2 h.o3 h.lt2 hg, ho, h.lt1, h.lt2, h.le⟩
theorem ThreeEls.v1 (h : ThreeEls W b1 b2 b3 lo h2 h3 u v x xs ys zs) : W.cell? ⟨b1, 0, none⟩ = some u := cell_of_one h.c1
theorem ThreeEls.v2 (h : ThreeEls W b1 b2 b3 lo h2 h3 u v x xs ys zs) : W.cell? ⟨b2, 0, none⟩ = some v := cell_of_one h.c2
theorem ThreeEls.v3 (h : ThreeEls W b1 b2 b3 lo h2 h3 u v x xs ys zs) : W.cell? ⟨b3, 0, none⟩ = some x := cell_of_one h.c3
theorem ThreeEls.grow2 {w : World} (h : ThreeEls W b1 b2 b3 lo h2 h3 u v x xs ys zs) (hw : w.heap.size ≤ h2) (hb : Below w.heap.size w W) (hg : W.grownBy W' v.ownBlock) : Below w.heap.size w W' :=
  hb.grown hg hb.size (fun k hk => Nat.le_trans hw (h.o2.lt k hk).1)
theorem ThreeEls.grow3 {w : World} (h : ThreeEls W b1 b2 b3 lo h2 h3 u v x xs ys zs) (hw : w.heap.size ≤ h2) (hb : Below w.heap.size w W) (hg : W.grownBy W' x.ownBlock) : Below w.heap.size w W' :=
  hb.grown hg hb.size (fun k hk => Nat.le_trans (Nat.le_trans hw h.le) (h.o3.lt k hk).1)

/-- the third picture comes -/
theorem ThreeEls.mk' {w2 w3 : World} {P Q : List (Int × Int)} (h : TwoEls (w2.alloc (.cells #[v] 24)) b1 b2 lo h2 u v P Q) (hle : h2 ≤ (w2.alloc (.cells #[v] 24)).heap.size) (h3' : OwnS w3 (w2.alloc (.cells #[v] 24)).heap.size x zs) (hb : Below (w2.alloc (.cells #[v] 24)).heap.size (w2.alloc (.cells #[v] 24)) w3) :
    ThreeEls (w3.alloc (.cells #[x] 24)) b1 b2 w3.heap.size lo h2 (w2.heap.size + 1) u v x P Q zs := by
  have hb2 := hb.trans ((Joins.below_alloc1 w3 (.cells #[x] 24)).mono hb.size)
  have h' := h.below hb2
  refine ⟨h'.c1, h'.c2, heap_alloc_last w3 _, h'.o1, h'.o2, ?_, h.lt, fun j hj => ?_, by simpa using hle⟩
  · have := h3'.alloc (.cells #[x] 24)
    unfold OwnS
    simpa using this
  · have := (h.o2.lt j hj).2
    simpa using this
end

set_option maxHeartbeats 4000000 in
set_option maxRecDepth 100000 in
theorem law_MirrorElement (v : Value) (xs : List (Int × Int)) (w : World) (hN : xs.length ≤ maxLen) (hwf : ∀ p ∈ xs, (Lit.int .i64 p.1).wf = true ∧ (Lit.int .i64 p.2).wf = true) (hv : SlA w v xs) :
    Calls Try.prog 6 #[.agg #[v]] w fun e w' => e = .returned (.bool true) ∧ Below w.heap.size w w' := by
  obtain ⟨P, ok, hPl, hS, hI⟩ : ∃ (P : List (Int × Int)) (ok : Bool), P.length ≤ 81 ∧ (xs.length ≤ 1048576 → ∀ u W, SlS W u xs → Calls Try.prog 20 #[.agg #[u]] W (SaysElB P ok W)) ∧ (xs.length ≤ 1048576 → ∀ u W, SlS W u xs → Calls Try.prog 21 #[.agg #[u]] W (SaysElB P ok W)) :=
    ⟨miV xs, elB xs, miV_len xs, fun hm u W hu => spec_Mirror u xs W hm hu, fun hm u W hu => impl_Mirror u xs W hm hwf hu⟩
  have CS := Lib.hid hS
  have CI := Lib.hid hI
  have HSL : Hid (∀ W, Below w.heap.size w W → SlA W v xs) := fun W hb => hv.below hb
  have b0 := Joins.below_alloc1 w (.cells #[v] 32)
  have hc0 : (w.alloc (.cells #[v] 32)).cell? ⟨w.heap.size, 0, none⟩ = some v := by rw [World.cell?_alloc_mark]; rfl
  have C0 := Lib.hid (szElement_any v xs 1048576 (w.alloc (.cells #[v] 32)) (by omega) (by omega) hN (HSL.out _ b0))
  have B0 := Lib.hid b0
  obtain ⟨m, hm0, hM, hH⟩ : ∃ m : Int, 0 ≤ m ∧ (∀ v base W, OwnS W base v P → Calls Try.prog 12 #[.agg #[v], .int .i64 1] W (fun e w' => e = .returned (.int .i64 m) ∧ OwnS w' base v (marksS 1 P.length) ∧ W.grownBy w' v.ownBlock)) ∧ (∀ v W, SlS W v (marksS 1 P.length) → Calls Try.prog 13 #[.agg #[v], .int .i64 1] W (fun e w' => e = .returned (.int .i64 m) ∧ Below W.heap.size W w')) :=
    ⟨((1 + P.length * 2 : Nat) : Int), by omega, fun v base W h => markElement_any v P base 1 W (by omega) (by omega) h, fun v W h => heldElement_any v 1 P.length W (by omega) (by omega) h⟩
  have CM := Lib.hid hM
  have CH := Lib.hid hH
  have CE : Hid (∀ u v W, SlS W u P → SlS W v P → Calls Try.prog 11 #[.agg #[u], .agg #[v]] W (SaysB true W)) := fun u v W hu hv => eqElement_same u v P W (by omega) hu hv
  clear hS hI hM hH hv b0
  go_enter Try.func6, Try.ntmps6
  go_wp2_with fail
  refine C0.out.mono ?_
  rintro e w1 ⟨r, rfl, hr1, hr2, hr3, hb1⟩
  by_cases hr : r < 0
  · have HB1 := Lib.hid hb1
    clear hb1 hr3
    go_wp2_with fail
    go_ret
    exact ⟨rfl, B0.out.trans (HB1.out.mono (by simp))⟩
  · have hsm : xs.length ≤ 1048576 := by have := hr3 (by omega); omega
    have hc1 := cell_kept hb1 hc0
    have B1 : Hid (Below w.heap.size w w1) := B0.out.trans (hb1.mono (by simp))
    have l1 : w.heap.size < w1.heap.size := by have := hb1.size; simp at this; omega
    obtain ⟨m2, hm2, hM2⟩ : ∃ m : Int, 0 ≤ m ∧ (∀ v base W, OwnS W base v xs → Calls Try.prog 12 #[.agg #[v], .int .i64 1] W (fun e w' => e = .returned (.int .i64 m) ∧ OwnS w' base v (marksS 1 xs.length) ∧ W.grownBy w' v.ownBlock)) :=
      ⟨((1 + xs.length * 2 : Nat) : Int), by omega, fun v base W h => markElement_any v xs base 1 W (by omega) (by omega) h⟩
    have CEs : Hid (∀ u v W, SlS W u xs → SlS W v xs → Calls Try.prog 11 #[.agg #[u], .agg #[v]] W (SaysB true W)) := fun u v W hu hv => eqElement_same u v xs W hsm hu hv
    have CSm := Lib.hid (CS.out hsm)
    have CIm := Lib.hid (CI.out hsm)
    have CM2 := Lib.hid hM2
    clear hb1 hr3 hr2 hr1 hc0 hM2
    go_wp2_with fail
    refine (toElement_any v xs _ hsm (HSL.out _ B1.out)).mono ?_
    rintro e w2 ⟨g2, cap2, rfl, hown2, hb2⟩
    have hc2 := cell_kept hb2 hc1
    have B2 : Hid (Below w.heap.size w w2) := B1.out.trans (hb2.mono B1.out.size)
    have l2 : w.heap.size < w2.heap.size := Nat.lt_of_lt_of_le l1 hb2.size
    have S2 := Lib.hid hown2.sl
    clear hb2 hown2 hc1
    go_wp2_with fail
    refine (CSm.out _ _ S2.out).mono ?_
    rintro e w3 ⟨ao3, n3, cap3, rfl, h3, hb3⟩
    have hc3 := cell_kept (Joins.below_alloc1 w3 (.cells #[.slice ao3 n3 cap3] 24)) (cell_kept hb3 hc2)
    have B3 : Hid (Below w.heap.size w (w3.alloc (.cells #[.slice ao3 n3 cap3] 24))) := (B2.out.trans (hb3.mono B2.out.size)).alloc (Nat.le_trans B2.out.size hb3.size) _
    have O3 := Lib.hid h3
    have l3 : w.heap.size < w3.heap.size := Nat.lt_of_lt_of_le l2 hb3.size
    clear hb3 h3 hc2 S2
    go_wp2_with fail
    refine (toElement_any v xs _ hsm (HSL.out _ B3.out)).mono ?_
    rintro e w4 ⟨g4, cap4, rfl, hown4, hb4⟩
    have hc4 := cell_kept (Joins.below_alloc1 w4 (.cells #[.slice (some ⟨g4, 0, none⟩) xs.length cap4] 24)) (cell_kept hb4 hc3)
    have T4 : Hid (TwoEls (w4.alloc (.cells #[.slice (some ⟨g4, 0, none⟩) xs.length cap4] 24)) w3.heap.size w4.heap.size w2.heap.size (w3.heap.size + 1) (.slice ao3 n3 cap3) (.slice (some ⟨g4, 0, none⟩) xs.length cap4) P xs) := TwoEls.mk2 O3.out hown4 hb4
    have B4 : Hid (Below w.heap.size w (w4.alloc (.cells #[.slice (some ⟨g4, 0, none⟩) xs.length cap4] 24))) := (B3.out.trans (hb4.mono B3.out.size)).alloc (Nat.le_trans B3.out.size hb4.size) _
    have l4 : w3.heap.size < w4.heap.size := by have := hb4.size; simp at this; omega
    have e4 := T4.out.v2
    clear hb4 hown4 hc3
    go_wp2_with fail
    refine (CIm.out _ _ T4.out.o2.sl).mono ?_
    rintro e w5 ⟨ao5, n5, cap5, rfl, h5, hb5⟩
    have T5 := Lib.hid (ThreeEls.mk' T4.out (by simp; omega) h5 hb5)
    have B5 : Hid (Below w.heap.size w (w5.alloc (.cells #[.slice ao5 n5 cap5] 24))) := (B4.out.trans (hb5.mono B4.out.size)).alloc (Nat.le_trans B4.out.size hb5.size) _
    have hc5 := cell_kept (Joins.below_alloc1 w5 (.cells #[.slice ao5 n5 cap5] 24)) (cell_kept hb5 hc4)
    have x1 := T5.out.v1
    have x3 := T5.out.v3
    have hlo : w.heap.size ≤ w3.heap.size + 1 := by omega
    clear hb5 h5 hc4 e4
    go_wp2_with fail
    refine (CE.out _ _ _ T5.out.o3.sl T5.out.o1.sl).mono ?_
    rintro e w6 ⟨rfl, hb6⟩
    have T6 := Lib.hid (T5.out.below hb6)
    have B6 := Lib.hid (B5.out.trans (hb6.mono B5.out.size))
    have hc6 := cell_kept hb6 hc5
    have HX : Hid (∀ W, Below w6.heap.size w6 W → W.cell? ⟨w.heap.size, 0, none⟩ = some v ∧ W.cell? ⟨w4.heap.size, 0, none⟩ = some (.slice (some ⟨g4, 0, none⟩) xs.length cap4)) := fun W hb => ⟨cell_kept hb hc6, (T6.out.below hb).v2⟩
    have HT : Hid (∀ W, Below w6.heap.size w6 W → Calls Try.prog 18 #[.agg #[v]] W (TookEl W xs)) := fun W hb => toElement_any v xs W hsm (HSL.out _ (B6.out.trans (hb.mono B6.out.size)))
    have HE : Hid (∀ W v3, Below w6.heap.size w6 W → SlS W v3 xs → Calls Try.prog 11 #[.agg #[.slice (some ⟨g4, 0, none⟩) xs.length cap4], .agg #[v3]] W (SaysB true W)) := fun W v3 hb h3 => CEs.out _ v3 W (T6.out.below hb).o2.sl h3
    clear hb6 hc5 x1 x3
    go_wp2_with fail
    go_region_held3 (fun w' => w'.cell? ⟨w.heap.size, 0, none⟩ = some v ∧ w'.cell? ⟨w4.heap.size, 0, none⟩ = some (.slice (some ⟨g4, 0, none⟩) xs.length cap4))
      (first | exact HX.out _ (Below.refl _ _) | exact HX.out _ (Below.refl _ _).drew | exact HX.out _ ((Below.refl _ _).drew.trans hb7) | exact HX.out _ (((Below.refl _ _).drew.trans hb7).trans (hb8.mono hb7.size)))
      (first | (go_at_call 18; refine (HT.out _ (Below.refl _ _).drew).mono ?_; rintro e w7 ⟨g7, cap7, rfl, hown7, hb7⟩) | (go_at_call 11; refine (HE.out _ _ ((Below.refl _ _).drew.trans hb7) hown7.sl).mono ?_; rintro e w8 ⟨rfl, hb8⟩))
    have hb68 := (Below.refl w6.heap.size w6).drew.trans (hb7.trans (hb8.mono hb7.size))
    have T8 := Lib.hid (T6.out.below hb68)
    have B8 : Hid (Below w.heap.size w w8) := B6.out.trans (hb68.mono B6.out.size)
    have hc8 := cell_kept hb68 hc6
    have y2 := T8.out.v2
    clear hb7 hb8 hb68 hown7 hc6 HX HT HE
    go_wp2_with fail
    refine (CM2.out _ _ _ T8.out.o2).mono ?_
    rintro e w9 ⟨rfl, ho9, hg9⟩
    have T9 := Lib.hid (T8.out.mark2 ho9 hg9)
    have B9 := Lib.hid (T8.out.grow2 hlo B8.out hg9)
    have hc9 : w9.cell? ⟨w.heap.size, 0, none⟩ = some v := by
      rw [World.cell?_of_block (hg9.block w.heap.size (blk_lt hc8) (fun e1 => by have := (T8.out.o2.lt _ e1.symm).1; omega))]; exact hc8
    have z1 := T9.out.v1
    have z3 := T9.out.v3
    clear ho9 hg9 y2 hc8
    go_wp2_with fail
    refine (CE.out _ _ _ T9.out.o3.sl T9.out.o1.sl).mono ?_
    rintro e w10 ⟨rfl, hb10⟩
    have T10 := Lib.hid (T9.out.below hb10)
    have B10 := Lib.hid (B9.out.trans (hb10.mono B9.out.size))
    have hc10 := cell_kept hb10 hc9
    have q3 := T10.out.v3
    clear hb10 hc9 z1 z3
    go_wp2_with fail
    refine (CM.out _ _ _ T10.out.o3).mono ?_
    rintro e w11 ⟨rfl, ho11, hg11⟩
    have T11 := Lib.hid (T10.out.mark3 ho11 hg11)
    have B11 := Lib.hid (T10.out.grow3 hlo B10.out hg11)
    have hc11 : w11.cell? ⟨w.heap.size, 0, none⟩ = some v := by
      rw [World.cell?_of_block (hg11.block w.heap.size (blk_lt hc10) (fun e1 => by have := (T10.out.o3.lt _ e1.symm).1; have := T10.out.le; omega))]; exact hc10
    have r3 := T11.out.v3
    clear ho11 hg11 q3 hc10
    go_wp2_with fail
    refine (CH.out _ _ T11.out.o3.sl).mono ?_
    rintro e w12 ⟨rfl, hb12⟩
    have T12 := Lib.hid (T11.out.below hb12)
    have B12 := Lib.hid (B11.out.trans (hb12.mono B11.out.size))
    have hc12 := cell_kept hb12 hc11
    clear hb12 hc11 r3
    go_wp2_with fail
    refine (toElement_any v xs _ hsm (HSL.out _ B12.out)).mono ?_
    rintro e w13 ⟨g13, cap13, rfl, hown13, hb13⟩
    have T13 := Lib.hid (T12.out.below hb13)
    have B13 := Lib.hid (B12.out.trans (hb13.mono B12.out.size))
    have S13 := Lib.hid hown13.sl
    clear hb13 hown13 hc12
    go_wp2_with fail
    refine (CIm.out _ _ S13.out).mono ?_
    rintro e w14 ⟨ao14, n14, cap14, rfl, h14, hb14⟩
    have T14 := Lib.hid ((T13.out.below hb14).below (Joins.below_alloc1 w14 (.cells #[.slice ao14 n14 cap14] 24)))
    have B14 : Hid (Below w.heap.size w (w14.alloc (.cells #[.slice ao14 n14 cap14] 24))) := (B13.out.trans (hb14.mono B13.out.size)).alloc (Nat.le_trans B13.out.size hb14.size) _
    have O14 := Lib.hid (OwnS.sl (h14.alloc (.cells #[.slice ao14 n14 cap14] 24)))
    have s1 := T14.out.v1
    have s3 : (w14.alloc (.cells #[.slice ao14 n14 cap14] 24)).cell? ⟨w14.heap.size, 0, none⟩ = some (.slice ao14 n14 cap14) := cell_of_one (heap_alloc_last w14 _)
    clear h14 hb14
    go_wp2_with fail
    refine (CE.out _ _ _ O14.out T14.out.o1.sl).mono ?_
    rintro e w15 ⟨rfl, hb15⟩
    have T15 := Lib.hid (T14.out.below hb15)
    have B15 := Lib.hid (B14.out.trans (hb15.mono B14.out.size))
    have t3 := T15.out.v3
    clear hb15 s1 s3
    go_wp2_with fail
    refine (CH.out _ _ T15.out.o3.sl).mono ?_
    rintro e w16 ⟨rfl, hb16⟩
    have B16 := Lib.hid (B15.out.trans (hb16.mono B15.out.size))
    clear hb16 t3
    go_wp2
    go_ret
    exact ⟨rfl, B16.out⟩
end Go.Proofs.Ytelakopkpmkdcaa
