/- Contracts of single functions, and plain lemmas, on which the exact laws of this seat rest; each holds under the conditions that it states. -/
import Derived.Test.YtlmmeefcnjcceaaDoorOj
import Derived.Test.YtlmmeefcnjcceaaDoorOf
namespace Go.Proofs.YtlmmeefcnjcceaaDoor
set_option linter.unusedVariables false
set_option linter.unusedSimpArgs false
open Go.RowKit Go.Maps

/-- a border as a value -/
def bdV (X Y : Int) (s : ByteArray) : Value := .agg #[.int .i64 X, .int .i64 Y, .string s]

theorem spec_IsBorder (X Y : Int) (s : ByteArray) (w : World) (hs : s.size ≤ 1048576) : Calls Tryd.prog 11 #[.agg #[.int .i64 X, .int .i64 Y, .string s]] w (SaysB (okb X Y s) w) := by
  have C := Lib.hid (l04Is_any w.heap.size X Y s (w.alloc (.cells #[.int .i64 X, .int .i64 Y, .string s] 30)) hs (heap_alloc_last w _))
  clear hs
  go_enter Tryd.func11, Tryd.ntmps11
  go_wp2_with fail
  refine C.out.mono ?_
  rintro e w' ⟨rfl, hb⟩
  have HB := Lib.hid hb
  clear hb
  go_wp2_with fail
  go_ret
  exact ⟨rfl, (Joins.below_alloc1 w _).trans (HB.out.mono (by simp))⟩

theorem impl_IsBorder (X Y : Int) (s : ByteArray) (w : World) (hs : s.size ≤ 1048576) (hm : Moves w) : Calls Tryd.prog 13 #[.agg #[.int .i64 X, .int .i64 Y, .string s]] w (SaysB (okb X Y s) w) := by
  have C := Lib.hid (routeOf_any X Y s (w.alloc (.cells #[.int .i64 X, .int .i64 Y, .string s] 30)) hs (hm.below (Joins.below_alloc1 w _)))
  clear hs hm
  go_enter Tryd.func13, Tryd.ntmps13
  go_wp2_with fail
  refine C.out.mono ?_
  rintro e w' (⟨hok, ao, n, cap, rfl, ho, hb⟩ | ⟨hno, rfl, hb⟩)
  · have HB := Lib.hid hb
    have HN := Lib.hid (okb_yes hok)
    clear hb ho hok
    go_wp2_with fail
    go_ret
    exact ⟨ret_bool HN.out.symm, (Joins.below_alloc1 w _).trans (HB.out.mono (by simp))⟩
  · have HB := Lib.hid hb
    have HN := Lib.hid (okb_no hno)
    clear hb hno
    go_wp2_with fail
    go_ret
    exact ⟨ret_bool HN.out.symm, (Joins.below_alloc1 w _).trans (HB.out.mono (by simp))⟩

theorem szBorder_any (X Y : Int) (s : ByteArray) (w : World) (hs : s.size ≤ maxLen) : Calls Tryd.prog 10 #[.agg #[.int .i64 X, .int .i64 Y, .string s], .int .i64 1048576] w fun e w' => (∃ r : Int, e = .returned (.int .i64 r) ∧ (0 ≤ r → s.size ≤ 1048576)) ∧ Below w.heap.size w w' := by
  unfold maxLen at hs
  by_cases h : s.size ≤ 1048576
  · go_enter Tryd.func10, Tryd.ntmps10
    go_wp2
    go_ret
    exact ⟨⟨_, rfl, fun _ => h⟩, Joins.below_alloc1 _ _⟩
  · have h2 : (1048576 : Int) - (s.size : Int) < 0 := by omega
    go_enter Tryd.func10, Tryd.ntmps10
    go_wp2
    go_ret
    exact ⟨⟨_, rfl, fun h => by omega⟩, Joins.below_alloc1 _ _⟩

theorem toSpotB_any (x y : Int) (w : World) : Calls Tryd.prog 36 #[.agg #[.int .i64 x, .int .i64 y]] w fun e w' => e = .returned (.agg #[.int .i64 x, .int .i64 y]) ∧ Below w.heap.size w w' := by
  go_enter Tryd.func36, Tryd.ntmps36
  go_wp2
  exact bodyPost_ret (v := .agg #[.int .i64 x, .int .i64 y]) (by simp [results, Tryd.results36, go_sem]) rfl ⟨rfl, Joins.below_alloc3 w _ _ _⟩
theorem infoBd : (Tryd.prog.info? 30).map (·.size) = some 3 := by kernel_rfl
/-- a struct in a variable handed back -/
theorem results_cellO {P : Program} {fn : Func} {p : Tmp} {ty : TypeId} (h : fn.results = #[.cell p ty]) (tmps : Array Value) (w : World) (g : Nat) (t : TypeId) (cs : Array Value) (fr : Nat × Nat) (d : TypeDesc)
    (hp : tmps.getD p undef = .pointer (some ⟨g, 0, none⟩)) (hg : w.heap[g]? = some (.cells cs t fr))
    (hu : P.underlying ty = some d) (hd : (match d with | .struct _ | .array _ _ => true | _ => false) = true) (hi : (P.info? ty).map (·.size) = some cs.size) :
    (results fn tmps).run P w = .ok (.agg cs) w := by
  have hp' : tmps[p]?.getD undef = .pointer (some ⟨g, 0, none⟩) := by simpa using hp
  simp [results, h, hp', asAddr, run_loadVar_row w g t ty cs fr d hg hu hd hi]
set_option maxHeartbeats 1000000 in
theorem toBorder_any (X Y : Int) (s : ByteArray) (w : World) : Calls Tryd.prog 12 #[.agg #[.int .i64 X, .int .i64 Y, .string s]] w fun e w' => e = .returned (.agg #[.int .i64 X, .int .i64 Y, .string s]) ∧ Below w.heap.size w w' := by
  have I0 : Hid ((((w.alloc (.cells #[.int .i64 X, .int .i64 Y, .string s] 25)).alloc (.cells #[.int .i64 0, .int .i64 0, .string ⟨#[]⟩] 30)).alloc (.cells #[.int .i64 0, .int .i64 0, .string ⟨#[]⟩] 30)).heap[w.heap.size]? = some (.cells #[.int .i64 X, .int .i64 Y, .string s] 25 (0, 0))) := by
    show _ = _
    rw [Below.heap_alloc _ _ _ (by simp; omega), Below.heap_alloc _ _ _ (by simp)]
    exact heap_alloc_last w _
  have I1 : Hid ((((w.alloc (.cells #[.int .i64 X, .int .i64 Y, .string s] 25)).alloc (.cells #[.int .i64 0, .int .i64 0, .string ⟨#[]⟩] 30)).alloc (.cells #[.int .i64 0, .int .i64 0, .string ⟨#[]⟩] 30)).heap[w.heap.size + 1]? = some (.cells #[.int .i64 0, .int .i64 0, .string ⟨#[]⟩] 30 (0, 0))) := by
    show _ = _
    rw [Below.heap_alloc _ _ _ (by simp)]
    have := heap_alloc_last (w.alloc (.cells #[.int .i64 X, .int .i64 Y, .string s] 25)) (.cells #[.int .i64 0, .int .i64 0, .string ⟨#[]⟩] 30)
    simp only [World.size_alloc] at this
    exact this
  have I2 : Hid ((((w.alloc (.cells #[.int .i64 X, .int .i64 Y, .string s] 25)).alloc (.cells #[.int .i64 0, .int .i64 0, .string ⟨#[]⟩] 30)).alloc (.cells #[.int .i64 0, .int .i64 0, .string ⟨#[]⟩] 30)).heap[w.heap.size + 1 + 1]? = some (.cells #[.int .i64 0, .int .i64 0, .string ⟨#[]⟩] 30 (0, 0))) := by
    have := heap_alloc_last ((w.alloc (.cells #[.int .i64 X, .int .i64 Y, .string s] 25)).alloc (.cells #[.int .i64 0, .int .i64 0, .string ⟨#[]⟩] 30)) (.cells #[.int .i64 0, .int .i64 0, .string ⟨#[]⟩] 30)
    simp only [World.size_alloc] at this
    exact this
  have I3 := Lib.hid (Joins.below_alloc3 w (.cells #[.int .i64 X, .int .i64 Y, .string s] 25) (.cells #[.int .i64 0, .int .i64 0, .string ⟨#[]⟩] 30) (.cells #[.int .i64 0, .int .i64 0, .string ⟨#[]⟩] 30))
  go_enter Tryd.func12, Tryd.ntmps12
  go_wp2_with fail
  refine (toSpotB_any _ _ _).mono ?_
  rintro e w1 ⟨rfl, hb⟩
  have A1 := (hb.block w.heap.size (by simp; omega)).trans I0.out
  have R1 := Lib.hid ((hb.block (w.heap.size + 1) (by simp)).trans I1.out)
  have V1 := Lib.hid ((hb.block (w.heap.size + 1 + 1) (by simp)).trans I2.out)
  have B1 := Lib.hid (I3.out.trans (hb.mono (by simp; omega)))
  have a2 : w1.cell? ⟨w.heap.size, 2, none⟩ = some (.string s) := by rw [Joins.cell_of_block A1 2]; rfl
  have v0 : w1.cell? ⟨w.heap.size + 1 + 1, 0, none⟩ = some (.int .i64 0) := by rw [Joins.cell_of_block V1.out 0]; rfl
  have v1 : w1.cell? ⟨w.heap.size + 1 + 1, 1, none⟩ = some (.int .i64 0) := by rw [Joins.cell_of_block V1.out 1]; rfl
  have v2 : w1.cell? ⟨w.heap.size + 1 + 1, 2, none⟩ = some (.string ⟨#[]⟩) := by rw [Joins.cell_of_block V1.out 2]; rfl
  have r0 : w1.cell? ⟨w.heap.size + 1, 0, none⟩ = some (.int .i64 0) := by rw [Joins.cell_of_block R1.out 0]; rfl
  have r1 : w1.cell? ⟨w.heap.size + 1, 1, none⟩ = some (.int .i64 0) := by rw [Joins.cell_of_block R1.out 1]; rfl
  have r2 : w1.cell? ⟨w.heap.size + 1, 2, none⟩ = some (.string ⟨#[]⟩) := by rw [Joins.cell_of_block R1.out 2]; rfl
  have fv : ∀ o, w1.frozen? ⟨w.heap.size + 1 + 1, o, none⟩ = false := fun o => by simp [World.frozen?, V1.out]
  have fr : ∀ o, w1.frozen? ⟨w.heap.size + 1, o, none⟩ = false := fun o => by simp [World.frozen?, R1.out]
  clear hb A1 I0 I1 I2 I3
  go_wp2
  have HR : ((((((w1.setCell ⟨w.heap.size + 1 + 1, 0, none⟩ (.int .i64 X)).setCell ⟨w.heap.size + 1 + 1, 1, none⟩ (.int .i64 Y)).setCell ⟨w.heap.size + 1 + 1, 2, none⟩ (.string s)).setCell ⟨w.heap.size + 1, 0, none⟩ (.int .i64 X)).setCell ⟨w.heap.size + 1, 1, none⟩ (.int .i64 Y)).setCell ⟨w.heap.size + 1, 2, none⟩ (.string s)).heap[w.heap.size + 1]? = some (.cells #[.int .i64 X, .int .i64 Y, .string s] 30 (0, 0)) := by
    have h0 := (Below.heap_setCell ((w1.setCell ⟨w.heap.size + 1 + 1, 0, none⟩ (.int .i64 X)).setCell ⟨w.heap.size + 1 + 1, 1, none⟩ (.int .i64 Y)) ⟨w.heap.size + 1 + 1, 2, none⟩ (.string s) (w.heap.size + 1) (by simp)).trans ((Below.heap_setCell (w1.setCell ⟨w.heap.size + 1 + 1, 0, none⟩ (.int .i64 X)) ⟨w.heap.size + 1 + 1, 1, none⟩ (.int .i64 Y) (w.heap.size + 1) (by simp)).trans ((Below.heap_setCell w1 ⟨w.heap.size + 1 + 1, 0, none⟩ (.int .i64 X) (w.heap.size + 1) (by simp)).trans R1.out))
    exact Lib.heap_setCell_same (i := 2) (Lib.heap_setCell_same (i := 1) (Lib.heap_setCell_same (i := 0) h0 (.int .i64 X)) (.int .i64 Y)) (.string s)
  refine bodyPost_ret (results_cellO (p := 2) (ty := 30) Tryd.results12 _ _ (w.heap.size + 1) 30 #[.int .i64 X, .int .i64 Y, .string s] (0, 0) _ rfl HR Tryd.underlying30 rfl infoBd) rfl ⟨rfl, ?_⟩
  exact (((((B1.out.setCell (p := ⟨w.heap.size + 1 + 1, 0, none⟩) (by simp; omega) _).setCell (p := ⟨w.heap.size + 1 + 1, 1, none⟩) (by simp; omega) _).setCell (p := ⟨w.heap.size + 1 + 1, 2, none⟩) (by simp; omega) _).setCell (p := ⟨w.heap.size + 1, 0, none⟩) (by simp) _).setCell (p := ⟨w.heap.size + 1, 1, none⟩) (by simp) _).setCell (p := ⟨w.heap.size + 1, 2, none⟩) (by simp) _

set_option maxHeartbeats 1000000 in
set_option maxRecDepth 100000 in
theorem law_IsBorder (X Y : Int) (s : ByteArray) (w : World) (hs : s.size ≤ maxLen) (hm : Moves w) :
    Calls Tryd.prog 3 #[.agg #[.int .i64 X, .int .i64 Y, .string s]] w fun e w' => e = .returned (.bool true) ∧ Below w.heap.size w w' := by
  have HM := Lib.hid (fun W (hb : Below w.heap.size w W) => hm.below hb)
  have HA := Lib.hid (heap_alloc_last w (.cells #[.int .i64 X, .int .i64 Y, .string s] 25))
  have HL : Hid (w.heap.size < (w.alloc (.cells #[.int .i64 X, .int .i64 Y, .string s] 25)).heap.size) := by show _ < _; simp
  have B0 := Lib.hid (Joins.below_alloc1 w (.cells #[.int .i64 X, .int .i64 Y, .string s] 25))
  have C0 := Lib.hid (fun W => szBorder_any X Y s W hs)
  clear hs hm
  go_enter Tryd.func3, Tryd.ntmps3
  go_wp2_with fail
  refine (C0.out _).mono ?_
  rintro e w1 ⟨⟨r, rfl, hr⟩, hb1⟩
  have A1 := Lib.hid ((hb1.block _ HL.out).trans HA.out)
  have B1 := Lib.hid (B0.out.trans (hb1.mono (Nat.le_of_lt HL.out)))
  clear hb1
  by_cases h0 : r < 0
  · clear hr
    go_wp2_with fail
    go_ret
    exact ⟨rfl, B1.out⟩
  · have hsm := hr (by omega)
    have CS := Lib.hid (fun W => spec_IsBorder X Y s W hsm)
    have CI := Lib.hid (fun W (h : Moves W) => impl_IsBorder X Y s W hsm h)
    clear hr
    obtain ⟨b, hb⟩ : ∃ b, okb X Y s = b := ⟨_, rfl⟩
    rw [hb] at CS CI
    clear hb hsm
    have a0 : w1.cell? ⟨w.heap.size, 0, none⟩ = some (.int .i64 X) := by rw [Joins.cell_of_block A1.out 0]; rfl
    have a1 : w1.cell? ⟨w.heap.size, 1, none⟩ = some (.int .i64 Y) := by rw [Joins.cell_of_block A1.out 1]; rfl
    have a2 : w1.cell? ⟨w.heap.size, 2, none⟩ = some (.string s) := by rw [Joins.cell_of_block A1.out 2]; rfl
    go_wp2_with fail
    refine (toBorder_any _ _ _ _).mono ?_
    rintro e w2 ⟨rfl, hb2⟩
    have B2 := Lib.hid (B1.out.trans (hb2.mono B1.out.size))
    have A2 := Lib.hid ((hb2.block _ (Array.getElem?_eq_some_iff.1 A1.out).1).trans A1.out)
    clear hb2 a0 a1 a2
    go_wp2_with fail
    refine (CS.out _).mono ?_
    rintro e w3 ⟨rfl, hb3⟩
    have B3 := Lib.hid (B2.out.trans (hb3.mono B2.out.size))
    have A3 := Lib.hid ((hb3.block _ (Array.getElem?_eq_some_iff.1 A2.out).1).trans A2.out)
    clear hb3
    have a0 : w3.cell? ⟨w.heap.size, 0, none⟩ = some (.int .i64 X) := by rw [Joins.cell_of_block A3.out 0]; rfl
    have a1 : w3.cell? ⟨w.heap.size, 1, none⟩ = some (.int .i64 Y) := by rw [Joins.cell_of_block A3.out 1]; rfl
    have a2 : w3.cell? ⟨w.heap.size, 2, none⟩ = some (.string s) := by rw [Joins.cell_of_block A3.out 2]; rfl
    go_wp2_with fail
    refine (toBorder_any _ _ _ _).mono ?_
    rintro e w4 ⟨rfl, hb4⟩
    have B4 := Lib.hid (B3.out.trans (hb4.mono B3.out.size))
    have M4 := Lib.hid (HM.out _ B4.out)
    clear hb4 a0 a1 a2
    go_wp2_with fail
    refine (CI.out _ M4.out).mono ?_
    rintro e w5 ⟨rfl, hb5⟩
    have B5 := Lib.hid (B4.out.trans (hb5.mono B4.out.size))
    clear hb5
    go_wp2
    go_ret
    exact ⟨rfl, B5.out⟩
end Go.Proofs.YtlmmeefcnjcceaaDoor
