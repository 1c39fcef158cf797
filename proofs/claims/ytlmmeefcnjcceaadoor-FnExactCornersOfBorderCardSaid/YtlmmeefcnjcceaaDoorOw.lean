/- Contracts of single functions, and plain lemmas, on which the exact laws of this seat rest; each holds under the conditions that it states. -/
import Derived.Test.YtlmmeefcnjcceaaDoorOv
import Derived.Test.YtlmmeefcnjcceaaDoorQi
namespace Go.Proofs.YtlmmeefcnjcceaaDoor
set_option linter.unusedVariables false
set_option linter.unusedSimpArgs false
open Go.RowKit Go.Maps

/-- want and got, both in slots: the elder is kept while the younger is marked -/
structure SpD (W : World) (lo h3 : Nat) (u x : Value) (xs zs : List (Int × Int)) : Prop where
  o1 : OwnS W lo u xs
  o3 : OwnS W h3 x zs
  lt1 : ∀ j, u.ownBlock = some j → j < h3
section
variable {W W' : World} {lo h3 : Nat} {u x : Value} {xs zs ns : List (Int × Int)}
theorem SpD.below (h : SpD W lo h3 u x xs zs) (hb : Below W.heap.size W W') : SpD W' lo h3 u x xs zs :=
  ⟨own_below h.o1 hb, own_below h.o3 hb, h.lt1⟩
theorem SpD.mark (h : SpD W lo h3 u x xs zs) (ho : OwnS W' h3 x ns) (hg : W.grownBy W' x.ownBlock) : SpD W' lo h3 u x xs ns :=
  ⟨own_apart (k := 0) h.o1 h.o3 h.lt1 hg, ho, h.lt1⟩
theorem SpD.grow {w : World} (h : SpD W lo h3 u x xs zs) (hw : w.heap.size ≤ h3) (hb : Below w.heap.size w W) (hg : W.grownBy W' x.ownBlock) : Below w.heap.size w W' :=
  hb.grown hg hb.size (fun k hk => Nat.le_trans hw (h.o3.lt k hk).1)
theorem SpD.var {b : Nat} {ob : Obj} (h : SpD W lo h3 u x xs zs) (hb : b < h3) (hc : W.heap[b]? = some ob) (hg : W.grownBy W' x.ownBlock) : W'.heap[b]? = some ob :=
  (hg.block b (Array.getElem?_eq_some_iff.1 hc).1 (fun e1 => by have := (h.o3.lt _ e1.symm).1; omega)).trans hc
end

set_option maxHeartbeats 4000000 in
set_option maxRecDepth 100000 in
theorem law_CornersOfBorder (X Y : Int) (s : ByteArray) (w : World) (hs : s.size ≤ maxLen) (hm : Moves w) :
    Calls Tryd.prog 6 #[.agg #[.int .i64 X, .int .i64 Y, .string s]] w fun e w' => e = .returned (.bool true) ∧ Below w.heap.size w w' := by
  have HM := Lib.hid (fun W (hb : Below w.heap.size w W) => hm.below hb)
  have HA := Lib.hid (heap_alloc_last w (.cells #[.int .i64 X, .int .i64 Y, .string s] 25))
  have HL : Hid (w.heap.size < (w.alloc (.cells #[.int .i64 X, .int .i64 Y, .string s] 25)).heap.size) := by show _ < _; simp
  have B0 := Lib.hid (Joins.below_alloc1 w (.cells #[.int .i64 X, .int .i64 Y, .string s] 25))
  have C0 := Lib.hid (fun W => szBorder_any X Y s W hs)
  clear hs hm
  go_enter Tryd.func6, Tryd.ntmps6
  go_wp2_with fail
  refine (C0.out _).mono ?_
  rintro e w1 ⟨⟨r, rfl, hr⟩, hb1⟩
  have A1 := Lib.hid ((hb1.block _ HL.out).trans HA.out)
  have B1 := Lib.hid (B0.out.trans (hb1.mono (Nat.le_of_lt HL.out)))
  clear hb1
  by_cases h0 : r < 0
  · clear hr
    go_wp2_with fail
    go_ret
    exact ⟨rfl, B1.out⟩
  · have hsm := hr (by omega)
    obtain ⟨P, ok, hPl, hS, hI⟩ : ∃ (P : List (Int × Int)) (ok : Bool), P.length ≤ 600 ∧ (∀ W, Calls Tryd.prog 18 #[.agg #[.int .i64 X, .int .i64 Y, .string s]] W (SaysSp P ok W)) ∧ (∀ W, Moves W → Calls Tryd.prog 19 #[.agg #[.int .i64 X, .int .i64 Y, .string s]] W (SaysSp P ok W)) :=
      ⟨crV X Y s, okb X Y s, crV_len X Y s, fun W => spec_CornersOfBorder X Y s W hsm, fun W h => impl_CornersOfBorder X Y s W hsm h⟩
    have CS := Lib.hid hS
    have CI := Lib.hid hI
    obtain ⟨m, hm0, hMk, hH⟩ : ∃ m : Int, 0 ≤ m ∧ (∀ v base W, OwnS W base v P → Calls Tryd.prog 21 #[v, .int .i64 1] W (fun e w' => e = .returned (.int .i64 m) ∧ OwnS w' base v (marksS 1 P.length) ∧ W.grownBy w' v.ownBlock)) ∧ (∀ v W, SlS W v (marksS 1 P.length) → Calls Tryd.prog 22 #[v, .int .i64 1] W (fun e w' => e = .returned (.int .i64 m) ∧ W = w')) :=
      ⟨((1 + P.length * 2 : Nat) : Int), by omega, fun v base W h => markSpotS_any v P base 1 W (by omega) (by omega) h, fun v W h => heldSpotS_any v 1 P.length W (by omega) (by omega) h⟩
    have CM := Lib.hid hMk
    have CH := Lib.hid hH
    have CE : Hid (∀ u v W, SlS W u P → SlS W v P → Calls Tryd.prog 20 #[u, v] W (SaysB true W)) := fun u v W hu hv => eqSpotS_same u v P W (by omega) hu hv
    clear hr hS hI hMk hH hsm
    have a0 : w1.cell? ⟨w.heap.size, 0, none⟩ = some (.int .i64 X) := by rw [Joins.cell_of_block A1.out 0]; rfl
    have a1 : w1.cell? ⟨w.heap.size, 1, none⟩ = some (.int .i64 Y) := by rw [Joins.cell_of_block A1.out 1]; rfl
    have a2 : w1.cell? ⟨w.heap.size, 2, none⟩ = some (.string s) := by rw [Joins.cell_of_block A1.out 2]; rfl
    go_wp2_with fail
    refine (toBorder_any _ _ _ _).mono ?_
    rintro e w2 ⟨rfl, hb2⟩
    have B2 := Lib.hid (B1.out.trans (hb2.mono B1.out.size))
    have A2 := Lib.hid ((hb2.block _ (Array.getElem?_eq_some_iff.1 A1.out).1).trans A1.out)
    clear hb2 a0 a1 a2
    go_wp2_with fail
    refine (CS.out _).mono ?_
    rintro e w3 ⟨ao3, n3, cap3, rfl, h3, hb3⟩
    have B3 := Lib.hid (B2.out.trans (hb3.mono B2.out.size))
    have A3 := Lib.hid ((hb3.block _ (Array.getElem?_eq_some_iff.1 A2.out).1).trans A2.out)
    have O3 := Lib.hid h3
    clear hb3 h3
    have a0 : w3.cell? ⟨w.heap.size, 0, none⟩ = some (.int .i64 X) := by rw [Joins.cell_of_block A3.out 0]; rfl
    have a1 : w3.cell? ⟨w.heap.size, 1, none⟩ = some (.int .i64 Y) := by rw [Joins.cell_of_block A3.out 1]; rfl
    have a2 : w3.cell? ⟨w.heap.size, 2, none⟩ = some (.string s) := by rw [Joins.cell_of_block A3.out 2]; rfl
    go_wp2_with fail
    refine (toBorder_any _ _ _ _).mono ?_
    rintro e w4 ⟨rfl, hb4⟩
    have B4 := Lib.hid (B3.out.trans (hb4.mono B3.out.size))
    have A4 := Lib.hid ((hb4.block _ (Array.getElem?_eq_some_iff.1 A3.out).1).trans A3.out)
    have p1 := Lib.hid (own_below O3.out hb4)
    have p3 : Hid (∀ j, (Value.slice ao3 n3 cap3).ownBlock = some j → j < w4.heap.size) := fun j hj => Nat.lt_of_lt_of_le (O3.out.lt j hj).2 hb4.size
    have M4 := Lib.hid (HM.out _ B4.out)
    clear hb4 a0 a1 a2 O3
    go_wp2_with fail
    refine (CI.out _ M4.out).mono ?_
    rintro e w5 ⟨ao5, n5, cap5, rfl, h5, hb5⟩
    have T5 : Hid (SpD w5 w2.heap.size w4.heap.size (.slice ao3 n3 cap3) (.slice ao5 n5 cap5) P P) := ⟨own_below p1.out hb5, h5, p3.out⟩
    have B5 := Lib.hid (B4.out.trans (hb5.mono B4.out.size))
    have A5 := Lib.hid ((hb5.block _ (Array.getElem?_eq_some_iff.1 A4.out).1).trans A4.out)
    have hlt : w.heap.size < w4.heap.size := (Array.getElem?_eq_some_iff.1 A4.out).1
    clear hb5 h5 p1 p3 M4
    go_wp2_with fail
    refine (CE.out _ _ _ T5.out.o3.sl T5.out.o1.sl).mono ?_
    rintro e w6 ⟨rfl, hb6⟩
    have T6 := Lib.hid (T5.out.below hb6)
    have B6 := Lib.hid (B5.out.trans (hb6.mono B5.out.size))
    have A6 := Lib.hid ((hb6.block _ (Array.getElem?_eq_some_iff.1 A5.out).1).trans A5.out)
    clear hb6
    go_wp2_with fail
    refine (CM.out _ _ _ T6.out.o3).mono ?_
    rintro e w7 ⟨rfl, ho7, hg7⟩
    have T7 := Lib.hid (T6.out.mark ho7 hg7)
    have B7 := Lib.hid (T6.out.grow (Nat.le_of_lt hlt) B6.out hg7)
    have A7 := Lib.hid (T6.out.var hlt A6.out hg7)
    clear ho7 hg7
    go_wp2_with fail
    refine (CH.out _ _ T7.out.o3.sl).mono ?_
    rintro e w8 ⟨rfl, rfl⟩
    have a0 : w7.cell? ⟨w.heap.size, 0, none⟩ = some (.int .i64 X) := by rw [Joins.cell_of_block A7.out 0]; rfl
    have a1 : w7.cell? ⟨w.heap.size, 1, none⟩ = some (.int .i64 Y) := by rw [Joins.cell_of_block A7.out 1]; rfl
    have a2 : w7.cell? ⟨w.heap.size, 2, none⟩ = some (.string s) := by rw [Joins.cell_of_block A7.out 2]; rfl
    go_wp2_with fail
    refine (toBorder_any _ _ _ _).mono ?_
    rintro e w9 ⟨rfl, hb9⟩
    have T9 := Lib.hid (T7.out.below hb9)
    have B9 := Lib.hid (B7.out.trans (hb9.mono B7.out.size))
    have M9 := Lib.hid (HM.out _ B9.out)
    clear hb9 a0 a1 a2
    go_wp2_with fail
    refine (CI.out _ M9.out).mono ?_
    rintro e w10 ⟨ao10, n10, cap10, rfl, h10, hb10⟩
    have T10 := Lib.hid (T9.out.below hb10)
    have B10 := Lib.hid (B9.out.trans (hb10.mono B9.out.size))
    have O10 := Lib.hid (OwnS.sl h10)
    clear hb10 h10
    go_wp2_with fail
    refine (CE.out _ _ _ O10.out T10.out.o1.sl).mono ?_
    rintro e w11 ⟨rfl, hb11⟩
    have T11 := Lib.hid (T10.out.below hb11)
    have B11 := Lib.hid (B10.out.trans (hb11.mono B10.out.size))
    clear hb11
    go_wp2_with fail
    refine (CH.out _ _ T11.out.o3.sl).mono ?_
    rintro e w12 ⟨rfl, rfl⟩
    go_wp2
    go_ret
    exact ⟨rfl, B11.out⟩
end Go.Proofs.YtlmmeefcnjcceaaDoor
