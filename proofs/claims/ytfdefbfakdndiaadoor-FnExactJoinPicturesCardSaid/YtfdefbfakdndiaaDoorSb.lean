/- Contracts of single functions, and plain lemmas, on which the exact laws of this seat rest; each holds under the conditions that it states. -/
import Derived.Test.YtfdefbfakdndiaaDoorSa
namespace Go.Proofs.YtfdefbfakdndiaaDoor
set_option linter.unusedVariables false
open Go.RowKit

def shOk (ss : List ByteArray) (dx dy : Int) : Bool := validB ss && inB dx (-16) 16 && inB dy (-16) 16
def shP (ss : List ByteArray) (dx dy : Int) : List ByteArray := if shOk ss dx dy then mkPic (row0 ss).size ss.length (shF ss dx dy) else []

set_option maxHeartbeats 2000000 in
set_option maxRecDepth 100000 in
theorem spec_Shift (v : Value) (ss : List ByteArray) (dx dy : Int) (w : World) (hN : ss.length ≤ maxLen) (hz : ∀ s ∈ ss, s.size ≤ maxLen) (hv : Sl w v ss) :
    Calls Tryd.prog 38 #[.agg #[v], .int .i64 dx, .int .i64 dy] w (SaysPic (shP ss dx dy) (shOk ss dx dy) w) := by
  have hb0 : Below w.heap.size w ((w.alloc (.cells #[v] 28)).alloc (.cells #[.slice none 0 0] 28)) := Joins.below_alloc2 w _ _
  have hl1 : ((w.alloc (.cells #[v] 28)).alloc (.cells #[.slice none 0 0] 28)).heap[w.heap.size]? = some (.cells #[v] 28 (0, 0)) := by
    rw [Below.heap_alloc _ _ _ (by simp)]; exact heap_alloc_last w _
  have hl2 : ((w.alloc (.cells #[v] 28)).alloc (.cells #[.slice none 0 0] 28)).heap[w.heap.size + 1]? = some (.cells #[.slice none 0 0] 28 (0, 0)) := by
    have := heap_alloc_last (w.alloc (.cells #[v] 28)) (.cells #[.slice none 0 0] 28)
    simp only [World.size_alloc] at this
    exact this
  have C := Lib.hid (l01Is_any w.heap.size 0 v ss _ (cell_of_one hl1) (hv.below hb0) hN hz)
  have L2 := Lib.hid hl2
  cases hok : shOk ss dx dy with
  | false =>
    have e1 : Hid (shP ss dx dy = []) := by show shP ss dx dy = _; unfold shP; rw [hok]; rfl
    rw [e1.out]
    cases hva : validB ss with
    | false =>
      have HOk := Lib.hid hva
      clear hok hva hb0 hl1 hl2 hv e1
      go_enter Tryd.func38, Tryd.ntmps38
      go_wp2_with fail
      refine C.out.mono ?_
      rintro e w1 ⟨rfl, hb1⟩
      rw [HOk.out]
      have hp1 := (hb1.block (w.heap.size + 1) (by simp)).trans L2.out
      have hfr : w1.frozen? ⟨w.heap.size + 1, 0, none⟩ = false := free_of_one hp1
      have hc2 : w1.cell? ⟨w.heap.size + 1, 0, none⟩ = some (.slice none 0 0) := cell_of_one hp1
      have B1 : Hid (Below w.heap.size w w1) := (Joins.below_alloc2 w _ _).trans (hb1.mono (by simp; omega))
      have P1 := Lib.hid hp1
      clear hb1 hp1
      go_wp2_with fail
      refine bodyPost_ret (v := .tuple #[.agg #[.slice none 0 0], .bool false]) (by simp [results, Tryd.results38, go_sem, cell_of_one (one_setCell P1.out)]) rfl ⟨_, _, _, rfl, World.ownsRow_nil _ _ _ _, B1.out.setCell (by simp) _⟩
    | true =>
      cases hx : inB dx (-16) 16 with
      | false =>
        have HOk := Lib.hid hva
        have HX := Lib.hid hx
        clear hok hva hb0 hl1 hl2 hv e1 hx
        go_enter Tryd.func38, Tryd.ntmps38
        go_wp2_with fail
        refine C.out.mono ?_
        rintro e w1 ⟨rfl, hb1⟩
        rw [HOk.out]
        have hp1 := (hb1.block (w.heap.size + 1) (by simp)).trans L2.out
        have hfr : w1.frozen? ⟨w.heap.size + 1, 0, none⟩ = false := free_of_one hp1
        have hc2 : w1.cell? ⟨w.heap.size + 1, 0, none⟩ = some (.slice none 0 0) := cell_of_one hp1
        have B1 : Hid (Below w.heap.size w w1) := (Joins.below_alloc2 w _ _).trans (hb1.mono (by simp; omega))
        have P1 := Lib.hid hp1
        clear hb1 hp1
        go_wp2_with fail
        refine (l00In_any _ _ _ _).mono ?_
        rintro e w' ⟨rfl, rfl⟩
        rw [HX.out]
        go_wp2_with fail
        refine bodyPost_ret (v := .tuple #[.agg #[.slice none 0 0], .bool false]) (by simp [results, Tryd.results38, go_sem, cell_of_one (one_setCell P1.out)]) rfl ⟨_, _, _, rfl, World.ownsRow_nil _ _ _ _, B1.out.setCell (by simp) _⟩
      | true =>
        have hy : inB dy (-16) 16 = false := by unfold shOk at hok; rw [hva, hx] at hok; simpa using hok
        have HOk := Lib.hid hva
        have HX := Lib.hid hx
        have HY := Lib.hid hy
        clear hok hva hb0 hl1 hl2 hv e1 hx hy
        go_enter Tryd.func38, Tryd.ntmps38
        go_wp2_with fail
        refine C.out.mono ?_
        rintro e w1 ⟨rfl, hb1⟩
        rw [HOk.out]
        have hp1 := (hb1.block (w.heap.size + 1) (by simp)).trans L2.out
        have hfr : w1.frozen? ⟨w.heap.size + 1, 0, none⟩ = false := free_of_one hp1
        have hc2 : w1.cell? ⟨w.heap.size + 1, 0, none⟩ = some (.slice none 0 0) := cell_of_one hp1
        have B1 : Hid (Below w.heap.size w w1) := (Joins.below_alloc2 w _ _).trans (hb1.mono (by simp; omega))
        have P1 := Lib.hid hp1
        clear hb1 hp1
        go_wp2_with fail
        refine (l00In_any _ _ _ _).mono ?_
        rintro e w' ⟨rfl, rfl⟩
        rw [HX.out]
        go_wp2_with fail
        refine (l00In_any _ _ _ _).mono ?_
        rintro e w' ⟨rfl, rfl⟩
        rw [HY.out]
        go_wp2_with fail
        refine bodyPost_ret (v := .tuple #[.agg #[.slice none 0 0], .bool false]) (by simp [results, Tryd.results38, go_sem, cell_of_one (one_setCell P1.out)]) rfl ⟨_, _, _, rfl, World.ownsRow_nil _ _ _ _, B1.out.setCell (by simp) _⟩
  | true =>
    have e1 : Hid (shP ss dx dy = mkPic (row0 ss).size ss.length (shF ss dx dy)) := by show shP ss dx dy = _; unfold shP; rw [hok, if_pos rfl]
    rw [e1.out]
    have h3 := hok
    unfold shOk at h3
    simp only [Bool.and_eq_true] at h3
    obtain ⟨⟨hva, hx⟩, hy⟩ := h3
    have hpa : ∀ W, Below ((w.alloc (.cells #[v] 28)).alloc (.cells #[.slice none 0 0] 28)).heap.size ((w.alloc (.cells #[v] 28)).alloc (.cells #[.slice none 0 0] 28)) W → PicAt W w.heap.size 0 ss := fun W hb =>
        ⟨hva, v, cell_kept hb (cell_of_one hl1), (hv.below hb0).below hb⟩
    have HP := Lib.hid hpa
    have HOk := Lib.hid hva
    have HX := Lib.hid hx
    have HY := Lib.hid hy
    have hx2 : -16 ≤ dx ∧ dx ≤ 16 := by unfold inB at hx; simpa using hx
    have hy2 : -16 ≤ dy ∧ dy ≤ 16 := by unfold inB at hy; simpa using hy
    have CI : Hid (∀ W, PicAt W w.heap.size 0 ss → Calls Tryd.prog 79 #[.pointer (some ⟨w.heap.size, 0, none⟩), .int .i64 dx, .int .i64 dy] W (TookPic W (mkPic (row0 ss).size ss.length (shF ss dx dy)))) := fun W h => l01Shift_any _ _ ss dx dy W hx2 hy2 h
    obtain ⟨pic, hpic⟩ : ∃ x, mkPic (row0 ss).size ss.length (shF ss dx dy) = x := ⟨_, rfl⟩
    rw [hpic] at CI ⊢
    clear hok hb0 hl1 hl2 hv hpa hpic hva hx hy hx2 hy2 e1
    go_enter Tryd.func38, Tryd.ntmps38
    go_wp2_with fail
    refine C.out.mono ?_
    rintro e w1 ⟨rfl, hb1⟩
    rw [HOk.out]
    have A1 := Lib.hid (HP.out _ hb1)
    have P1 := Lib.hid ((hb1.block (w.heap.size + 1) (by simp)).trans L2.out)
    have B1 : Hid (Below w.heap.size w w1) := (Joins.below_alloc2 w _ _).trans (hb1.mono (by simp; omega))
    clear hb1
    go_wp2_with fail
    refine (l00In_any _ _ _ _).mono ?_
    rintro e w' ⟨rfl, rfl⟩
    rw [HX.out]
    go_wp2_with fail
    refine (l00In_any _ _ _ _).mono ?_
    rintro e w' ⟨rfl, rfl⟩
    rw [HY.out]
    go_wp2_with fail
    refine (CI.out _ A1.out).mono ?_
    rintro e w4 ⟨g4, cap4, rfl, hown4, hb4⟩
    have hp2 := (hb4.block (w.heap.size + 1) (Array.getElem?_eq_some_iff.1 P1.out).1).trans P1.out
    have hfr : w4.frozen? ⟨w.heap.size + 1, 0, none⟩ = false := free_of_one hp2
    have hc2 : w4.cell? ⟨w.heap.size + 1, 0, none⟩ = some (.slice none 0 0) := cell_of_one hp2
    have O2 := Lib.hid (own_set (u := .slice (some ⟨g4, 0, none⟩) pic.length cap4) hown4 hp2 (by decide))
    have P4 := Lib.hid hp2
    have B4 := Lib.hid (B1.out.trans (hb4.mono B1.out.size))
    have hs3 := B1.out.size
    clear hown4 hp2 hb4
    go_wp2_with fail
    refine bodyPost_ret (v := .tuple #[.agg #[.slice (some ⟨g4, 0, none⟩) pic.length cap4], .bool true]) (by simp [results, Tryd.results38, go_sem, cell_of_one (one_setCell P4.out)]) rfl ⟨_, _, _, rfl, Joins.ownsRow_le O2.out hs3, B4.out.setCell (by simp) _⟩
end Go.Proofs.YtfdefbfakdndiaaDoor
