/- Contracts of single functions, and plain lemmas, on which the exact laws of this seat rest; each holds under the conditions that it states. -/
import Derived.Test.YthoffbibaimjlaaDoorSz
import Derived.Test.YthoffbibaimjlaaDoorQe
import Derived.Test.YthoffbibaimjlaaDoorQi
import Derived.Test.YthoffbibaimjlaaDoorT3
namespace Go.Proofs.YthoffbibaimjlaaDoor
set_option linter.unusedVariables false
set_option linter.unusedSimpArgs false
open Go.RowKit

/-- want (in a slot), the argument's copy (in a variable) and got (in a slot) -/
structure SpT (W : World) (b2 lo h2 h3 : Nat) (u v x : Value) (xs : List (Int × Int)) (ys : List ByteArray) (zs : List (Int × Int)) : Prop where
  c2 : W.heap[b2]? = some (.cells #[v] 27 (0, 0))
  o1 : OwnS W lo u xs
  o2 : OwnP W h2 v ys
  o3 : OwnS W h3 x zs
  lt1 : ∀ j, u.ownBlock = some j → j < h2
  lt2 : ∀ j, v.ownBlock = some j → j < h3
  le : h2 ≤ h3
section
variable {W W' : World} {b2 lo h2 h3 : Nat} {u v x : Value} {xs zs ns : List (Int × Int)} {ys ms : List ByteArray}
theorem SpT.below (h : SpT W b2 lo h2 h3 u v x xs ys zs) (hb : Below W.heap.size W W') : SpT W' b2 lo h2 h3 u v x xs ys zs :=
  ⟨(hb.block _ (Array.getElem?_eq_some_iff.1 h.c2).1).trans h.c2, own_below h.o1 hb, own_below h.o2 hb, own_below h.o3 hb, h.lt1, h.lt2, h.le⟩
theorem SpT.mark2 (h : SpT W b2 lo h2 h3 u v x xs ys zs) (ho : OwnP W' h2 v ms) (hg : W.grownBy W' v.ownBlock) : SpT W' b2 lo h2 h3 u v x xs ms zs :=
  ⟨var_far h.c2 h.o2 (by decide) hg, own_apart (k := 0) h.o1 h.o2 h.lt1 hg, ho, own_apart' h.o3 h.o2 h.lt2 hg, h.lt1, h.lt2, h.le⟩
theorem SpT.mark3 (h : SpT W b2 lo h2 h3 u v x xs ys zs) (ho : OwnS W' h3 x ns) (hg : W.grownBy W' x.ownBlock) : SpT W' b2 lo h2 h3 u v x xs ys ns :=
  ⟨var_far h.c2 h.o3 (by decide) hg, own_apart (k := 0) h.o1 h.o3 (fun j hj => Nat.lt_of_lt_of_le (h.lt1 j hj) h.le) hg, own_apart (k := 0) h.o2 h.o3 h.lt2 hg, ho, h.lt1, h.lt2, h.le⟩
theorem SpT.v2 (h : SpT W b2 lo h2 h3 u v x xs ys zs) : W.cell? ⟨b2, 0, none⟩ = some v := cell_of_one h.c2
theorem SpT.grow2 {w : World} (h : SpT W b2 lo h2 h3 u v x xs ys zs) (hw : w.heap.size ≤ h2) (hb : Below w.heap.size w W) (hg : W.grownBy W' v.ownBlock) : Below w.heap.size w W' :=
  hb.grown hg hb.size (fun k hk => Nat.le_trans hw (h.o2.lt k hk).1)
theorem SpT.grow3 {w : World} (h : SpT W b2 lo h2 h3 u v x xs ys zs) (hw : w.heap.size ≤ h2) (hb : Below w.heap.size w W) (hg : W.grownBy W' x.ownBlock) : Below w.heap.size w W' :=
  hb.grown hg hb.size (fun k hk => Nat.le_trans (Nat.le_trans hw h.le) (h.o3.lt k hk).1)
end

set_option maxHeartbeats 4000000 in
set_option maxRecDepth 100000 in
theorem law_SpotsOf (v : Value) (ss : List ByteArray) (w : World) (hN : ss.length ≤ maxLen) (hz : ∀ s ∈ ss, s.size ≤ maxLen) (hv : Sl w v ss) (he : ErrLen w) :
    Calls Tryd.prog 4 #[.agg #[v]] w fun e w' => e = .returned (.bool true) ∧ Below w.heap.size w w' := by
  obtain ⟨P, ok, hPl, hS, hI⟩ : ∃ (P : List (Int × Int)) (ok : Bool), P.length ≤ 256 ∧ (∀ u W, Sl W u ss → Calls Tryd.prog 10 #[.agg #[u]] W (SaysSp P ok W)) ∧ (∀ u W, Sl W u ss → ErrLen W → Calls Tryd.prog 11 #[.agg #[u]] W (SaysSp P ok W)) := by
    refine ⟨spV ss, validB ss, ?_, fun u W hu => spec_Spots u ss W hN hz hu, fun u W hu hw => impl_Spots u ss W hN hz hu hw⟩
    unfold spV
    split
    · rename_i hp
      have V := vp_of hp
      exact Nat.le_trans (spL_len _ _ _) (Nat.mul_le_mul V.w16 V.n16)
    · simp
  have CS := Lib.hid hS
  have CI := Lib.hid hI
  have HSL : Hid (∀ W, Below w.heap.size w W → Sl W v ss) := fun W hb => hv.below hb
  have HEL : Hid (∀ W, Below w.heap.size w W → ErrLen W) := fun W hb => he.below hb
  have b0 := Joins.below_alloc1 w (.cells #[v] 24)
  have hc0 : (w.alloc (.cells #[v] 24)).cell? ⟨w.heap.size, 0, none⟩ = some v := by rw [World.cell?_alloc_mark]; rfl
  have C0 := Lib.hid (szPicture_any v ss 1048576 (w.alloc (.cells #[v] 24)) (by omega) (by omega) hN hz (HSL.out _ b0))
  have B0 := Lib.hid b0
  obtain ⟨m, hm0, hM, hH⟩ : ∃ m : Int, 0 ≤ m ∧ (∀ v base W, OwnS W base v P → Calls Tryd.prog 14 #[v, .int .i64 1] W (fun e w' => e = .returned (.int .i64 m) ∧ OwnS w' base v (marksS 1 P.length) ∧ W.grownBy w' v.ownBlock)) ∧ (∀ v W, SlS W v (marksS 1 P.length) → Calls Tryd.prog 15 #[v, .int .i64 1] W (fun e w' => e = .returned (.int .i64 m) ∧ W = w')) :=
    ⟨((1 + P.length * 2 : Nat) : Int), by omega, fun v base W h => markSpotS_any v P base 1 W (by omega) (by omega) h, fun v W h => heldSpotS_any v 1 P.length W (by omega) (by omega) h⟩
  have CM := Lib.hid hM
  have CH := Lib.hid hH
  have CE : Hid (∀ u v W, SlS W u P → SlS W v P → Calls Tryd.prog 12 #[u, v] W (SaysB true W)) := fun u v W hu hv => eqSpotS_same u v P W (by omega) hu hv
  have CEs : Hid (∀ u v W, Sl W u ss → Sl W v ss → Calls Tryd.prog 9 #[.agg #[u], .agg #[v]] W (SaysB true W)) := fun u v W hu hv => by
    have := eqPicture_any u v ss ss W hN hN hu hv
    rwa [sameL_self] at this
  clear hS hI hM hH hv he b0
  go_enter Tryd.func4, Tryd.ntmps4
  go_wp2_with fail
  refine C0.out.mono ?_
  rintro e w1 ⟨r, rfl, hr1, hr2, hr3, hb1⟩
  by_cases hr : r < 0
  · have HB1 := Lib.hid hb1
    clear hb1 hr3
    go_wp2_with fail
    go_ret
    exact ⟨rfl, B0.out.trans (HB1.out.mono (by simp))⟩
  · have hsm : ss.length ≤ 1048576 := by have := (hr3 (by omega)).1; omega
    have hc1 := cell_kept hb1 hc0
    have B1 : Hid (Below w.heap.size w w1) := B0.out.trans (hb1.mono (by simp))
    have l1 : w.heap.size < w1.heap.size := by have := hb1.size; simp at this; omega
    obtain ⟨m2, hm2, hM2⟩ : ∃ m : Int, 0 ≤ m ∧ (∀ v base W, OwnP W base v ss → Calls Tryd.prog 13 #[.agg #[v], .int .i64 1] W (fun e w' => e = .returned (.int .i64 m) ∧ OwnP w' base v (marks 1 ss.length) ∧ W.grownBy w' v.ownBlock)) :=
      ⟨((1 + ss.length : Nat) : Int), by omega, fun v base W h => markPicture_any v ss base 1 W (by omega) (by omega) h⟩
    have CM2 := Lib.hid hM2
    clear hb1 hr3 hr2 hr1 hc0 hM2
    go_wp2_with fail
    refine (toPicture_any v ss _ hsm (HSL.out _ B1.out)).mono ?_
    rintro e w2 ⟨g2, cap2, rfl, hown2, hb2⟩
    have hc2 := cell_kept hb2 hc1
    have B2 : Hid (Below w.heap.size w w2) := B1.out.trans (hb2.mono B1.out.size)
    have l2 : w.heap.size < w2.heap.size := Nat.lt_of_lt_of_le l1 hb2.size
    have S2 := Lib.hid hown2.sl
    clear hb2 hown2 hc1
    go_wp2_with fail
    refine (CS.out _ _ S2.out).mono ?_
    rintro e w3 ⟨ao3, n3, cap3, rfl, h3, hb3⟩
    have hc3 := cell_kept hb3 hc2
    have B3 : Hid (Below w.heap.size w w3) := B2.out.trans (hb3.mono B2.out.size)
    have O3 := Lib.hid h3
    have l3 : w.heap.size < w3.heap.size := Nat.lt_of_lt_of_le l2 hb3.size
    clear hb3 h3 hc2 S2
    go_wp2_with fail
    refine (toPicture_any v ss _ hsm (HSL.out _ B3.out)).mono ?_
    rintro e w4 ⟨g4, cap4, rfl, hown4, hb4⟩
    have ba := Joins.below_alloc1 w4 (.cells #[.slice (some ⟨g4, 0, none⟩) ss.length cap4] 27)
    have hc4 := cell_kept ba (cell_kept hb4 hc3)
    have B4 : Hid (Below w.heap.size w (w4.alloc (.cells #[.slice (some ⟨g4, 0, none⟩) ss.length cap4] 27))) := (B3.out.trans (hb4.mono B3.out.size)).alloc (Nat.le_trans B3.out.size hb4.size) _
    have l4 : w3.heap.size ≤ w4.heap.size := hb4.size
    have p1 := Lib.hid (own_below (own_below O3.out hb4) ba)
    have p2 := Lib.hid (own_below hown4 ba)
    have p3 : Hid (∀ j, (Value.slice ao3 n3 cap3).ownBlock = some j → j < w3.heap.size) := fun j hj => (O3.out.lt j hj).2
    have p4 : Hid (∀ j, (Value.slice (some ⟨g4, 0, none⟩) ss.length cap4).ownBlock = some j → j < w4.heap.size + 1) := fun j hj => Nat.lt_succ_of_lt (hown4.lt j hj).2
    have e4 : (w4.alloc (.cells #[.slice (some ⟨g4, 0, none⟩) ss.length cap4] 27)).cell? ⟨w4.heap.size, 0, none⟩ = some (.slice (some ⟨g4, 0, none⟩) ss.length cap4) := cell_of_one (heap_alloc_last w4 _)
    clear hb4 hown4 hc3 ba O3
    go_wp2_with fail
    refine (CI.out _ _ (OwnP.sl p2.out) (HEL.out _ B4.out)).mono ?_
    rintro e w5 ⟨ao5, n5, cap5, rfl, h5, hb5⟩
    have T5 : Hid (SpT w5 w4.heap.size w2.heap.size w3.heap.size (w4.heap.size + 1) (.slice ao3 n3 cap3) (.slice (some ⟨g4, 0, none⟩) ss.length cap4) (.slice ao5 n5 cap5) P ss P) :=
      ⟨(hb5.block _ (by simp)).trans (heap_alloc_last w4 _), own_below p1.out hb5, own_below p2.out hb5, by have := h5; unfold OwnS at this ⊢; simpa using this, p3.out, p4.out, by omega⟩
    have B5 : Hid (Below w.heap.size w w5) := B4.out.trans (hb5.mono B4.out.size)
    have hc5 := cell_kept hb5 hc4
    have hlo : w.heap.size ≤ w3.heap.size := by omega
    clear hb5 h5 hc4 e4 p1 p2 p3 p4
    go_wp2_with fail
    refine (CE.out _ _ _ T5.out.o3.sl T5.out.o1.sl).mono ?_
    rintro e w6 ⟨rfl, hb6⟩
    have T6 := Lib.hid (T5.out.below hb6)
    have B6 := Lib.hid (B5.out.trans (hb6.mono B5.out.size))
    have hc6 := cell_kept hb6 hc5
    have HX : Hid (∀ W, Below w6.heap.size w6 W → W.cell? ⟨w.heap.size, 0, none⟩ = some v ∧ W.cell? ⟨w4.heap.size, 0, none⟩ = some (.slice (some ⟨g4, 0, none⟩) ss.length cap4)) := fun W hb => ⟨cell_kept hb hc6, (T6.out.below hb).v2⟩
    have HT : Hid (∀ W, Below w6.heap.size w6 W → Calls Tryd.prog 7 #[.agg #[v]] W (TookPic W ss)) := fun W hb => toPicture_any v ss W hsm (HSL.out _ (B6.out.trans (hb.mono B6.out.size)))
    have HE : Hid (∀ W v3, Below w6.heap.size w6 W → Sl W v3 ss → Calls Tryd.prog 9 #[.agg #[.slice (some ⟨g4, 0, none⟩) ss.length cap4], .agg #[v3]] W (SaysB true W)) := fun W v3 hb h3 => CEs.out _ v3 W (OwnP.sl (T6.out.below hb).o2) h3
    clear hb6 hc5
    go_wp2_with fail
    go_region_held3 (fun w' => w'.cell? ⟨w.heap.size, 0, none⟩ = some v ∧ w'.cell? ⟨w4.heap.size, 0, none⟩ = some (.slice (some ⟨g4, 0, none⟩) ss.length cap4))
      (first | exact HX.out _ (Below.refl _ _) | exact HX.out _ (Below.refl _ _).drew | exact HX.out _ ((Below.refl _ _).drew.trans hb7) | exact HX.out _ (((Below.refl _ _).drew.trans hb7).trans (hb8.mono hb7.size)))
      (first | (go_at_call 7; refine (HT.out _ (Below.refl _ _).drew).mono ?_; rintro e w7 ⟨g7, cap7, rfl, hown7, hb7⟩) | (go_at_call 9; refine (HE.out _ _ ((Below.refl _ _).drew.trans hb7) hown7.sl).mono ?_; rintro e w8 ⟨rfl, hb8⟩))
    have hb68 := (Below.refl w6.heap.size w6).drew.trans (hb7.trans (hb8.mono hb7.size))
    have T8 := Lib.hid (T6.out.below hb68)
    have B8 : Hid (Below w.heap.size w w8) := B6.out.trans (hb68.mono B6.out.size)
    have hc8 := cell_kept hb68 hc6
    have y2 := T8.out.v2
    clear hb7 hb8 hb68 hown7 hc6 HX HT HE
    go_wp2_with fail
    refine (CM2.out _ _ _ T8.out.o2).mono ?_
    rintro e w9 ⟨rfl, ho9, hg9⟩
    have T9 := Lib.hid (T8.out.mark2 ho9 hg9)
    have B9 := Lib.hid (T8.out.grow2 hlo B8.out hg9)
    have hc9 : w9.cell? ⟨w.heap.size, 0, none⟩ = some v := by
      rw [World.cell?_of_block (hg9.block w.heap.size (blk_lt hc8) (fun e1 => by have := (T8.out.o2.lt _ e1.symm).1; omega))]; exact hc8
    clear ho9 hg9 y2 hc8
    go_wp2_with fail
    refine (CE.out _ _ _ T9.out.o3.sl T9.out.o1.sl).mono ?_
    rintro e w10 ⟨rfl, hb10⟩
    have T10 := Lib.hid (T9.out.below hb10)
    have B10 := Lib.hid (B9.out.trans (hb10.mono B9.out.size))
    have hc10 := cell_kept hb10 hc9
    clear hb10 hc9
    go_wp2_with fail
    refine (CM.out _ _ _ T10.out.o3).mono ?_
    rintro e w11 ⟨rfl, ho11, hg11⟩
    have T11 := Lib.hid (T10.out.mark3 ho11 hg11)
    have B11 := Lib.hid (T10.out.grow3 hlo B10.out hg11)
    have hc11 : w11.cell? ⟨w.heap.size, 0, none⟩ = some v := by
      rw [World.cell?_of_block (hg11.block w.heap.size (blk_lt hc10) (fun e1 => by have := (T10.out.o3.lt _ e1.symm).1; have := T10.out.le; omega))]; exact hc10
    clear ho11 hg11 hc10
    go_wp2_with fail
    refine (CH.out _ _ T11.out.o3.sl).mono ?_
    rintro e w12 ⟨rfl, rfl⟩
    go_wp2_with fail
    refine (toPicture_any v ss _ hsm (HSL.out _ B11.out)).mono ?_
    rintro e w13 ⟨g13, cap13, rfl, hown13, hb13⟩
    have T13 := Lib.hid (T11.out.below hb13)
    have B13 := Lib.hid (B11.out.trans (hb13.mono B11.out.size))
    have S13 := Lib.hid hown13.sl
    clear hb13 hown13 hc11
    go_wp2_with fail
    refine (CI.out _ _ S13.out (HEL.out _ B13.out)).mono ?_
    rintro e w14 ⟨ao14, n14, cap14, rfl, h14, hb14⟩
    have T14 := Lib.hid (T13.out.below hb14)
    have B14 : Hid (Below w.heap.size w w14) := B13.out.trans (hb14.mono B13.out.size)
    have O14 := Lib.hid (OwnS.sl h14)
    clear h14 hb14
    go_wp2_with fail
    refine (CE.out _ _ _ O14.out T14.out.o1.sl).mono ?_
    rintro e w15 ⟨rfl, hb15⟩
    have T15 := Lib.hid (T14.out.below hb15)
    have B15 := Lib.hid (B14.out.trans (hb15.mono B14.out.size))
    clear hb15
    go_wp2_with fail
    refine (CH.out _ _ T15.out.o3.sl).mono ?_
    rintro e w16 ⟨rfl, rfl⟩
    go_wp2
    go_ret
    exact ⟨rfl, B15.out⟩
end Go.Proofs.YthoffbibaimjlaaDoor
