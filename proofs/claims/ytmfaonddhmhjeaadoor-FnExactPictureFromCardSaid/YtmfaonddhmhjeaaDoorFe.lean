/- Contracts of single functions, and plain lemmas, on which the exact laws of this seat rest; each holds under the conditions that it states. -/
import Derived.Test.YtmfaonddhmhjeaaDoorFd
import Derived.Test.YtmfaonddhmhjeaaDoorQh
import Derived.Test.YtmfaonddhmhjeaaDoorT3
namespace Go.Proofs.YtmfaonddhmhjeaaDoor
set_option linter.unusedVariables false
set_option linter.unusedSimpArgs false
open Go.RowKit

theorem OwnS.spots {w : World} {base g n cap : Nat} {xs : List (Int × Int)} (h : OwnS w base (.slice (some ⟨g, 0, none⟩) n cap) xs) : Spots w g xs := by
  refine ⟨(h.lt g rfl).2, fun i hi => ⟨?_, ?_⟩⟩
  · rcases Joins.ownsRow_forms h with ⟨h1, _⟩ | ⟨g', cap', h1⟩
    · cases h1
    · cases h1
      rw [h.cellAt (i * 2) (by omega), flat2_at xs _ (by omega), spotC_x]
  · rcases Joins.ownsRow_forms h with ⟨h1, _⟩ | ⟨g', cap', h1⟩
    · cases h1
    · cases h1
      rw [h.cellAt (i * 2 + 1) (by omega), flat2_at xs _ (by omega), spotC_y]

/-- want (in a variable), the argument's copy (in a slot) and got (in a variable) -/
structure FromT (W : World) (b1 b3 lo h2 h3 : Nat) (u x z : Value) (P : List ByteArray) (X : List (Int × Int)) (Z : List ByteArray) : Prop where
  c1 : W.heap[b1]? = some (.cells #[u] 26 (0, 0))
  c3 : W.heap[b3]? = some (.cells #[z] 26 (0, 0))
  o1 : OwnP W lo u P
  o2 : OwnS W h2 x X
  o3 : OwnP W h3 z Z
  lt1 : ∀ j, u.ownBlock = some j → j < h2
  lt2 : ∀ j, x.ownBlock = some j → j < h3
  le : h2 ≤ h3
section
variable {W W' : World} {b1 b3 lo h2 h3 : Nat} {u x z : Value} {P Z ms : List ByteArray} {X ns : List (Int × Int)}
theorem FromT.below (h : FromT W b1 b3 lo h2 h3 u x z P X Z) (hb : Below W.heap.size W W') : FromT W' b1 b3 lo h2 h3 u x z P X Z :=
  ⟨(hb.block _ (Array.getElem?_eq_some_iff.1 h.c1).1).trans h.c1, (hb.block _ (Array.getElem?_eq_some_iff.1 h.c3).1).trans h.c3, own_below h.o1 hb, own_below h.o2 hb, own_below h.o3 hb, h.lt1, h.lt2, h.le⟩
theorem FromT.mark2 (h : FromT W b1 b3 lo h2 h3 u x z P X Z) (ho : OwnS W' h2 x ns) (hg : W.grownBy W' x.ownBlock) : FromT W' b1 b3 lo h2 h3 u x z P ns Z :=
  ⟨var_far h.c1 h.o2 (by decide) hg, var_far h.c3 h.o2 (by decide) hg, own_apart (k := 0) h.o1 h.o2 h.lt1 hg, ho, own_apart' h.o3 h.o2 h.lt2 hg, h.lt1, h.lt2, h.le⟩
theorem FromT.mark3 (h : FromT W b1 b3 lo h2 h3 u x z P X Z) (ho : OwnP W' h3 z ms) (hg : W.grownBy W' z.ownBlock) : FromT W' b1 b3 lo h2 h3 u x z P X ms :=
  ⟨var_far h.c1 h.o3 (by decide) hg, var_far h.c3 h.o3 (by decide) hg, own_apart (k := 0) h.o1 h.o3 (fun j hj => Nat.lt_of_lt_of_le (h.lt1 j hj) h.le) hg, own_apart (k := 0) h.o2 h.o3 h.lt2 hg, ho, h.lt1, h.lt2, h.le⟩
theorem FromT.v1 (h : FromT W b1 b3 lo h2 h3 u x z P X Z) : W.cell? ⟨b1, 0, none⟩ = some u := cell_of_one h.c1
theorem FromT.v3 (h : FromT W b1 b3 lo h2 h3 u x z P X Z) : W.cell? ⟨b3, 0, none⟩ = some z := cell_of_one h.c3
theorem FromT.grow2 {w : World} (h : FromT W b1 b3 lo h2 h3 u x z P X Z) (hw : w.heap.size ≤ h2) (hb : Below w.heap.size w W) (hg : W.grownBy W' x.ownBlock) : Below w.heap.size w W' :=
  hb.grown hg hb.size (fun k hk => Nat.le_trans hw (h.o2.lt k hk).1)
theorem FromT.grow3 {w : World} (h : FromT W b1 b3 lo h2 h3 u x z P X Z) (hw : w.heap.size ≤ h2) (hb : Below w.heap.size w W) (hg : W.grownBy W' z.ownBlock) : Below w.heap.size w W' :=
  hb.grown hg hb.size (fun k hk => Nat.le_trans (Nat.le_trans hw h.le) (h.o3.lt k hk).1)
end

/-- a copy of spots, wherever it lies -/
def SomeSp (w : World) (n : Nat) (xs : List (Int × Int)) (e : Ending) (w' : World) : Prop := ∃ g, e = .returned (.slice (some ⟨g, 0, none⟩) n n) ∧ OwnS w' w.heap.size (.slice (some ⟨g, 0, none⟩) n n) xs ∧ Below w.heap.size w w'

set_option maxHeartbeats 4000000 in
set_option maxRecDepth 100000 in
theorem law_PictureFrom (a c : Int) (v : Value) (xs : List (Int × Int)) (w : World) (hN : xs.length ≤ maxLen) (hv : SlA w v xs) :
    Calls Tryd.prog 3 #[.int .i64 a, .int .i64 c, v] w fun e w' => e = .returned (.bool true) ∧ Below w.heap.size w w' := by
  have fv : ∃ ao cap, v = .slice ao xs.length cap := by
    rcases hv with ⟨ao, cap, rfl, rfl⟩ | ⟨b, off, cap, rfl, _⟩
    · exact ⟨_, _, rfl⟩
    · exact ⟨_, _, rfl⟩
  obtain ⟨ao, cap, rfl⟩ := fv
  have C0 := Lib.hid (szSpotS_any ao xs.length cap 1048576 w (by omega) (by omega) hN)
  have HSL : Hid (∀ W, Below w.heap.size w W → SlA W (.slice ao xs.length cap) xs) := fun W hb => hv.below hb
  clear hN hv
  by_cases hsm : xs.length ≤ 1048576
  · obtain ⟨P, ok, hPl, hS, hI⟩ := both_From a c xs hsm
    have CT : Hid (∀ W, Below w.heap.size w W → Calls Tryd.prog 9 #[.slice ao xs.length cap] W (SomeSp W xs.length xs)) := fun W hb => (toSpotS_sl _ xs W hsm (HSL.out W hb)).mono fun e w' h => ⟨_, h⟩
    unfold SomeSp at CT
    have CES : Hid (∀ u v W, SlS W u xs → SlS W v xs → Calls Tryd.prog 12 #[u, v] W (SaysB true W)) := fun u v W hu hv => eqSpotS_same u v xs W hsm hu hv
    obtain ⟨m, hm0, hM, hH⟩ : ∃ m : Int, 0 ≤ m ∧ (∀ v base W, OwnP W base v P → Calls Tryd.prog 14 #[.agg #[v], .int .i64 1] W (fun e w' => e = .returned (.int .i64 m) ∧ OwnP w' base v (marks 1 P.length) ∧ W.grownBy w' v.ownBlock)) ∧ (∀ v W, Sl W v (marks 1 P.length) → Calls Tryd.prog 15 #[.agg #[v], .int .i64 1] W (fun e w' => e = .returned (.int .i64 m) ∧ Below W.heap.size W w')) :=
      ⟨((1 + P.length : Nat) : Int), by omega, fun v base W h => markPicture_any v P base 1 W (by omega) (by omega) h, fun v W h => heldPicture_any v 1 P.length W (by omega) (by omega) h⟩
    obtain ⟨m2, hm2, hM2⟩ : ∃ m : Int, 0 ≤ m ∧ (∀ v base W, OwnS W base v xs → Calls Tryd.prog 13 #[v, .int .i64 1] W (fun e w' => e = .returned (.int .i64 m) ∧ OwnS w' base v (marksS 1 xs.length) ∧ W.grownBy w' v.ownBlock)) :=
      ⟨((1 + xs.length * 2 : Nat) : Int), by omega, fun v base W h => markSpotS_any v xs base 1 W (by omega) (by omega) h⟩
    have CS := Lib.hid hS
    have CI := Lib.hid hI
    have CM := Lib.hid hM
    have CM2 := Lib.hid hM2
    have CH := Lib.hid hH
    have CE : Hid (∀ u v W, Sl W u P → Sl W v P → Calls Tryd.prog 11 #[.agg #[u], .agg #[v]] W (SaysB true W)) := fun u v W hu hv => by
      have := eqPicture_any u v P P W (by unfold maxLen; omega) (by unfold maxLen; omega) hu hv
      rwa [sameL_self] at this
    obtain ⟨n, hn⟩ : ∃ n, xs.length = n := ⟨_, rfl⟩
    rw [hn] at C0 CT CM2 CS CI hsm ⊢
    clear hS hI hM hM2 hH hn HSL
    go_enter Tryd.func3, Tryd.ntmps3
    go_wp2_with fail
    refine C0.out.mono ?_
    rintro e w' ⟨r, rfl, hr1, hr2, hr3, rfl⟩
    by_cases hr : r < 0
    · clear hr3
      go_wp2_with fail
      go_ret
      exact ⟨rfl, Below.refl _ _⟩
    · clear hr3 hr1 hr2
      go_wp2_with fail
      refine (CT.out _ (Below.refl _ _)).mono ?_
      rintro e w1 ⟨g1, rfl, h1, hb1⟩
      have B1 := Lib.hid hb1
      have S1 := Lib.hid h1.spots
      clear hb1 h1
      go_wp2_with fail
      refine (CS.out _ _ _ S1.out).mono ?_
      rintro e w2 ⟨ao2, n2, cap2, rfl, h2, hb2⟩
      have B2 : Hid (Below w.heap.size w (w2.alloc (.cells #[.slice ao2 n2 cap2] 26))) := (B1.out.trans (hb2.mono B1.out.size)).alloc (Nat.le_trans B1.out.size hb2.size) _
      have O2 := Lib.hid h2
      have l2 : w1.heap.size ≤ w2.heap.size := hb2.size
      clear hb2 h2
      go_wp2_with fail
      refine (CT.out _ B2.out).mono ?_
      rintro e w3 ⟨g3, rfl, h3, hb3⟩
      have B3 : Hid (Below w.heap.size w w3) := B2.out.trans (hb3.mono B2.out.size)
      have H3 := Lib.hid h3
      have HB3 := Lib.hid hb3
      have S3 := Lib.hid h3.spots
      have l3 : w2.heap.size + 1 ≤ w3.heap.size := by have := hb3.size; simpa using this
      clear hb3 h3
      go_wp2_with fail
      refine (CI.out _ _ _ S3.out).mono ?_
      rintro e w4 ⟨ao4, n4, cap4, rfl, h4, hb4⟩
      have T4 : Hid (FromT (w4.alloc (.cells #[.slice ao4 n4 cap4] 26)) w2.heap.size w4.heap.size w1.heap.size (w2.heap.size + 1) w3.heap.size (.slice ao2 n2 cap2) (.slice (some ⟨g3, 0, none⟩) n n) (.slice ao4 n4 cap4) P xs P) := by
        have ba := Joins.below_alloc1 w4 (.cells #[.slice ao4 n4 cap4] 26)
        have l4 := hb4.size
        refine ⟨?_, heap_alloc_last w4 _, own_below (own_below (own_below (O2.out.alloc _) HB3.out) hb4) ba, own_below (own_below (show OwnS w3 (w2.heap.size + 1) (.slice (some ⟨g3, 0, none⟩) n n) xs from by have := H3.out; simp only [World.size_alloc] at this; exact this) hb4) ba, own_below h4 ba, fun j hj => ?_, fun j hj => (H3.out.lt j hj).2, l3⟩
        · rw [Below.heap_alloc _ _ _ (by omega), hb4.block _ (by omega), HB3.out.block _ (by simp)]; exact heap_alloc_last w2 _
        · have := (O2.out.lt j hj).2; omega
      have B4 : Hid (Below w.heap.size w (w4.alloc (.cells #[.slice ao4 n4 cap4] 26))) := (B3.out.trans (hb4.mono B3.out.size)).alloc (Nat.le_trans B3.out.size hb4.size) _
      have hlo : w.heap.size ≤ w2.heap.size + 1 := by have := B1.out.size; omega
      have x1 := T4.out.v1
      have x3 := T4.out.v3
      clear hb4 h4 O2 H3 HB3 S1 S3 B1 B2 B3
      go_wp2_with fail
      refine (CE.out _ _ _ T4.out.o3.sl T4.out.o1.sl).mono ?_
      rintro e w5 ⟨rfl, hb5⟩
      have T5 := Lib.hid (T4.out.below hb5)
      have B5 := Lib.hid (B4.out.trans (hb5.mono B4.out.size))
      clear hb5 x1 x3 T4 B4
      go_wp2_with fail
      refine (CT.out _ B5.out).mono ?_
      rintro e w6 ⟨g6, rfl, h6, hb6⟩
      have T6 := Lib.hid (T5.out.below hb6)
      have B6 := Lib.hid (B5.out.trans (hb6.mono B5.out.size))
      have S6 := Lib.hid h6.sl
      clear h6 hb6 T5 B5
      go_wp2_with fail
      refine (CES.out _ _ _ T6.out.o2.sl S6.out).mono ?_
      rintro e w7 ⟨rfl, hb7⟩
      have T7 := Lib.hid (T6.out.below hb7)
      have B7 := Lib.hid (B6.out.trans (hb7.mono B6.out.size))
      clear hb7 T6 B6 S6
      go_wp2_with fail
      refine (CM2.out _ _ _ T7.out.o2).mono ?_
      rintro e w8 ⟨rfl, ho8, hg8⟩
      have T8 := Lib.hid (T7.out.mark2 ho8 hg8)
      have B8 := Lib.hid (T7.out.grow2 hlo B7.out hg8)
      have x1 := T8.out.v1
      have x3 := T8.out.v3
      clear ho8 hg8 T7 B7
      go_wp2_with fail
      refine (CE.out _ _ _ T8.out.o3.sl T8.out.o1.sl).mono ?_
      rintro e w9 ⟨rfl, hb9⟩
      have T9 := Lib.hid (T8.out.below hb9)
      have B9 := Lib.hid (B8.out.trans (hb9.mono B8.out.size))
      have y3 := T9.out.v3
      clear hb9 x1 x3 T8 B8
      go_wp2_with fail
      refine (CM.out _ _ _ T9.out.o3).mono ?_
      rintro e w10 ⟨rfl, ho10, hg10⟩
      have T10 := Lib.hid (T9.out.mark3 ho10 hg10)
      have B10 := Lib.hid (T9.out.grow3 hlo B9.out hg10)
      have z3 := T10.out.v3
      clear ho10 hg10 y3 T9 B9
      go_wp2_with fail
      refine (CH.out _ _ T10.out.o3.sl).mono ?_
      rintro e w11 ⟨rfl, hb11⟩
      have T11 := Lib.hid (T10.out.below hb11)
      have B11 := Lib.hid (B10.out.trans (hb11.mono B10.out.size))
      clear hb11 z3 T10 B10
      go_wp2_with fail
      refine (CT.out _ B11.out).mono ?_
      rintro e w12 ⟨g12, rfl, h12, hb12⟩
      have T12 := Lib.hid (T11.out.below hb12)
      have B12 := Lib.hid (B11.out.trans (hb12.mono B11.out.size))
      have S12 := Lib.hid h12.spots
      clear h12 hb12 T11 B11
      go_wp2_with fail
      refine (CI.out _ _ _ S12.out).mono ?_
      rintro e w13 ⟨ao13, n13, cap13, rfl, h13, hb13⟩
      have T13 := Lib.hid ((T12.out.below hb13).below (Joins.below_alloc1 w13 (.cells #[.slice ao13 n13 cap13] 26)))
      have B13 : Hid (Below w.heap.size w (w13.alloc (.cells #[.slice ao13 n13 cap13] 26))) := (B12.out.trans (hb13.mono B12.out.size)).alloc (Nat.le_trans B12.out.size hb13.size) _
      have O13 := Lib.hid (OwnP.sl (h13.alloc (.cells #[.slice ao13 n13 cap13] 26)))
      have x1 := T13.out.v1
      have x13 : (w13.alloc (.cells #[.slice ao13 n13 cap13] 26)).cell? ⟨w13.heap.size, 0, none⟩ = some (.slice ao13 n13 cap13) := cell_of_one (heap_alloc_last w13 _)
      clear h13 hb13 T12 B12 S12
      go_wp2_with fail
      refine (CE.out _ _ _ O13.out T13.out.o1.sl).mono ?_
      rintro e w14 ⟨rfl, hb14⟩
      have T14 := Lib.hid (T13.out.below hb14)
      have B14 := Lib.hid (B13.out.trans (hb14.mono B13.out.size))
      have y3 := T14.out.v3
      clear hb14 x1 x13 T13 B13 O13
      go_wp2_with fail
      refine (CH.out _ _ T14.out.o3.sl).mono ?_
      rintro e w15 ⟨rfl, hb15⟩
      have B15 := Lib.hid (B14.out.trans (hb15.mono B14.out.size))
      clear hb15 y3
      go_wp2
      go_ret
      exact ⟨rfl, B15.out⟩
  · go_enter Tryd.func3, Tryd.ntmps3
    go_wp2_with fail
    refine C0.out.mono ?_
    rintro e w' ⟨r, rfl, hr1, hr2, hr3, rfl⟩
    have hr : r < 0 := by
      by_cases h : r < 0
      · exact h
      · have := hr3 (by omega); omega
    clear hr3
    go_wp2_with fail
    go_ret
    exact ⟨rfl, Below.refl _ _⟩
end Go.Proofs.YtmfaonddhmhjeaaDoor
