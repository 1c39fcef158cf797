/- Contracts of single functions, and plain lemmas, on which the exact laws of this seat rest; each holds under the conditions that it states. -/
import Derived.Test.YtlmmeefcnjcceaaDoorOq
namespace Go.Proofs.YtlmmeefcnjcceaaDoor
set_option linter.unusedVariables false
set_option linter.unusedSimpArgs false
open Go.RowKit Go.Maps

set_option maxHeartbeats 1000000 in
set_option maxRecDepth 100000 in
theorem law_TurningOf (X Y : Int) (s : ByteArray) (w : World) (hs : s.size ≤ maxLen) (hm : Moves w) :
    Calls Tryd.prog 5 #[.agg #[.int .i64 X, .int .i64 Y, .string s]] w fun e w' => e = .returned (.bool true) ∧ Below w.heap.size w w' := by
  have HM := Lib.hid (fun W (hb : Below w.heap.size w W) => hm.below hb)
  have HA := Lib.hid (heap_alloc_last w (.cells #[.int .i64 X, .int .i64 Y, .string s] 25))
  have HL : Hid (w.heap.size < (w.alloc (.cells #[.int .i64 X, .int .i64 Y, .string s] 25)).heap.size) := by show _ < _; simp
  have B0 := Lib.hid (Joins.below_alloc1 w (.cells #[.int .i64 X, .int .i64 Y, .string s] 25))
  have C0 := Lib.hid (fun W => szBorder_any X Y s W hs)
  clear hs hm
  go_enter Tryd.func5, Tryd.ntmps5
  go_wp2_with fail
  refine (C0.out _).mono ?_
  rintro e w1 ⟨⟨r, rfl, hr⟩, hb1⟩
  have A1 := Lib.hid ((hb1.block _ HL.out).trans HA.out)
  have B1 := Lib.hid (B0.out.trans (hb1.mono (Nat.le_of_lt HL.out)))
  clear hb1
  by_cases h0 : r < 0
  · clear hr
    go_wp2_with fail
    go_ret
    exact ⟨rfl, B1.out⟩
  · have hsm := hr (by omega)
    have CS := Lib.hid (fun W => spec_TurningOf X Y s W hsm)
    have CI := Lib.hid (fun W (h : Moves W) => impl_TurningOf X Y s W hsm h)
    clear hr
    obtain ⟨b, hb⟩ : ∃ b, okb X Y s = b := ⟨_, rfl⟩
    obtain ⟨n, hn⟩ : ∃ n, tgV X Y s = n := ⟨_, rfl⟩
    rw [hb, hn] at CS CI
    clear hb hn hsm
    have a0 : w1.cell? ⟨w.heap.size, 0, none⟩ = some (.int .i64 X) := by rw [Joins.cell_of_block A1.out 0]; rfl
    have a1 : w1.cell? ⟨w.heap.size, 1, none⟩ = some (.int .i64 Y) := by rw [Joins.cell_of_block A1.out 1]; rfl
    have a2 : w1.cell? ⟨w.heap.size, 2, none⟩ = some (.string s) := by rw [Joins.cell_of_block A1.out 2]; rfl
    go_wp2_with fail
    refine (toBorder_any _ _ _ _).mono ?_
    rintro e w2 ⟨rfl, hb2⟩
    have B2 := Lib.hid (B1.out.trans (hb2.mono B1.out.size))
    have A2 := Lib.hid ((hb2.block _ (Array.getElem?_eq_some_iff.1 A1.out).1).trans A1.out)
    clear hb2 a0 a1 a2
    go_wp2_with fail
    refine (CS.out _).mono ?_
    rintro e w3 ⟨rfl, hb3⟩
    have B3 := Lib.hid (B2.out.trans (hb3.mono B2.out.size))
    have A3 := Lib.hid ((hb3.block _ (Array.getElem?_eq_some_iff.1 A2.out).1).trans A2.out)
    clear hb3
    have a0 : w3.cell? ⟨w.heap.size, 0, none⟩ = some (.int .i64 X) := by rw [Joins.cell_of_block A3.out 0]; rfl
    have a1 : w3.cell? ⟨w.heap.size, 1, none⟩ = some (.int .i64 Y) := by rw [Joins.cell_of_block A3.out 1]; rfl
    have a2 : w3.cell? ⟨w.heap.size, 2, none⟩ = some (.string s) := by rw [Joins.cell_of_block A3.out 2]; rfl
    go_wp2_with fail
    refine (toBorder_any _ _ _ _).mono ?_
    rintro e w4 ⟨rfl, hb4⟩
    have B4 := Lib.hid (B3.out.trans (hb4.mono B3.out.size))
    have M4 := Lib.hid (HM.out _ B4.out)
    clear hb4 a0 a1 a2
    go_wp2_with fail
    refine (CI.out _ M4.out).mono ?_
    rintro e w5 ⟨rfl, hb5⟩
    have B5 := Lib.hid (B4.out.trans (hb5.mono B4.out.size))
    clear hb5
    go_wp2
    go_ret
    exact ⟨rfl, B5.out⟩
end Go.Proofs.YtlmmeefcnjcceaaDoor
