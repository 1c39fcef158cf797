/- Contracts of single functions, and plain lemmas, on which the exact laws of this seat rest; each holds under the conditions that it states. -/
import Derived.Test.YtfdefbfakdndiaaDoorJb
import Derived.Test.YtfdefbfakdndiaaDoorJc
namespace Go.Proofs.YtfdefbfakdndiaaDoor
set_option linter.unusedVariables false
set_option linter.unusedSimpArgs false
open Go.RowKit

set_option maxHeartbeats 1600000 in
set_option maxRecDepth 100000 in
theorem spec_Join_no (op : Int) (u v : Value) (ss tt : List ByteArray) (w : World) (hN : ss.length ≤ maxLen) (hz : ∀ s ∈ ss, s.size ≤ maxLen) (hu : Sl w u ss) (hN2 : tt.length ≤ maxLen) (hz2 : ∀ s ∈ tt, s.size ≤ maxLen) (hv : Sl w v tt) (hno : (inB op 0 3 && likeB ss tt) = false) :
    Calls Tryd.prog 29 #[.int .i64 op, .agg #[u], .agg #[v]] w (SaysPic [] false w) := by
  have hb0 : Below w.heap.size w (((w.alloc (.cells #[u] 28)).alloc (.cells #[v] 28)).alloc (.cells #[.slice none 0 0] 28)) := Joins.below_alloc3 w _ _ _
  have hl1 : (((w.alloc (.cells #[u] 28)).alloc (.cells #[v] 28)).alloc (.cells #[.slice none 0 0] 28)).heap[w.heap.size]? = some (.cells #[u] 28 (0, 0)) := by
    rw [Below.heap_alloc _ _ _ (by simp; try omega), Below.heap_alloc _ _ _ (by simp)]; exact heap_alloc_last w _
  have hl2 : (((w.alloc (.cells #[u] 28)).alloc (.cells #[v] 28)).alloc (.cells #[.slice none 0 0] 28)).heap[w.heap.size + 1]? = some (.cells #[v] 28 (0, 0)) := by
    rw [Below.heap_alloc _ _ _ (by simp; try omega)]; exact heap_alloc2_new _ _ _
  have hl3 : (((w.alloc (.cells #[u] 28)).alloc (.cells #[v] 28)).alloc (.cells #[.slice none 0 0] 28)).heap[w.heap.size + 1 + 1]? = some (.cells #[.slice none 0 0] 28 (0, 0)) := by
    have := heap_alloc_last ((w.alloc (.cells #[u] 28)).alloc (.cells #[v] 28)) (.cells #[.slice none 0 0] 28)
    simpa using this
  have L3 := Lib.hid hl3
  have C := Lib.hid (l01Like_any w.heap.size (w.heap.size + 1) u v ss tt _ (cell_of_one hl1) (hu.below hb0) hN hz (cell_of_one hl2) (hv.below hb0) hN2 hz2)
  cases hx : inB op 0 3 with
  | false =>
    have HX := Lib.hid hx
    clear hx hno hb0 hl1 hl2 hl3 hu hv C
    go_enter Tryd.func29, Tryd.ntmps29
    go_wp2_with fail
    refine (l00In_any _ _ _ _).mono ?_
    rintro e w' ⟨rfl, rfl⟩
    rw [HX.out]
    have hfr : (((w.alloc (.cells #[u] 28)).alloc (.cells #[v] 28)).alloc (.cells #[.slice none 0 0] 28)).frozen? ⟨w.heap.size + 1 + 1, 0, none⟩ = false := free_of_one L3.out
    have hc2 : (((w.alloc (.cells #[u] 28)).alloc (.cells #[v] 28)).alloc (.cells #[.slice none 0 0] 28)).cell? ⟨w.heap.size + 1 + 1, 0, none⟩ = some (.slice none 0 0) := cell_of_one L3.out
    go_wp2_with fail
    refine bodyPost_ret (v := .tuple #[.agg #[.slice none 0 0], .bool false]) (by first | (simp [results, Tryd.results29, go_sem, cell_of_one (one_setCell L3.out)]; done) | simp [results, Tryd.results29, go_sem, cell_of_one L3.out]) rfl ⟨_, _, _, rfl, World.ownsRow_nil _ _ _ _, ?_⟩
    first | exact Joins.below_alloc3 w _ _ _ | exact (Joins.below_alloc3 w _ _ _).setCell (by simp; omega) _
  | true =>
    have hlk : likeB ss tt = false := by rw [hx] at hno; simpa using hno
    have HX := Lib.hid hx
    rw [hlk] at C
    clear hx hno hb0 hl1 hl2 hl3 hu hv hlk
    go_enter Tryd.func29, Tryd.ntmps29
    go_wp2_with fail
    refine (l00In_any _ _ _ _).mono ?_
    rintro e w' ⟨rfl, rfl⟩
    rw [HX.out]
    go_wp2_with fail
    refine C.out.mono ?_
    rintro e w1 ⟨rfl, HBB⟩
    have hp1 := (HBB.block (w.heap.size + 1 + 1) (by simp)).trans L3.out
    have hfr : w1.frozen? ⟨w.heap.size + 1 + 1, 0, none⟩ = false := free_of_one hp1
    have hc2 : w1.cell? ⟨w.heap.size + 1 + 1, 0, none⟩ = some (.slice none 0 0) := cell_of_one hp1
    have B1 : Hid (Below w.heap.size w w1) := (Joins.below_alloc3 w _ _ _).trans (HBB.mono (by simp; omega))
    have P1 := Lib.hid hp1
    clear HBB hp1
    go_wp2_with fail
    refine bodyPost_ret (v := .tuple #[.agg #[.slice none 0 0], .bool false]) (by simp [results, Tryd.results29, go_sem, cell_of_one (one_setCell P1.out)]) rfl ⟨_, _, _, rfl, World.ownsRow_nil _ _ _ _, B1.out.setCell (by simp; omega) _⟩

set_option maxHeartbeats 1600000 in
set_option maxRecDepth 100000 in
theorem spec_Join_0 (u v : Value) (ss tt : List ByteArray) (w : World) (hN : ss.length ≤ maxLen) (hz : ∀ s ∈ ss, s.size ≤ maxLen) (hu : Sl w u ss) (hN2 : tt.length ≤ maxLen) (hz2 : ∀ s ∈ tt, s.size ≤ maxLen) (hv : Sl w v tt) (hok : likeB ss tt = true) :
    Calls Tryd.prog 29 #[.int .i64 0, .agg #[u], .agg #[v]] w (SaysPic (mkPic (row0 ss).size ss.length (joF jF0 ss tt)) true w) := by
  have hb0 : Below w.heap.size w (((w.alloc (.cells #[u] 28)).alloc (.cells #[v] 28)).alloc (.cells #[.slice none 0 0] 28)) := Joins.below_alloc3 w _ _ _
  have hl1 : (((w.alloc (.cells #[u] 28)).alloc (.cells #[v] 28)).alloc (.cells #[.slice none 0 0] 28)).heap[w.heap.size]? = some (.cells #[u] 28 (0, 0)) := by
    rw [Below.heap_alloc _ _ _ (by simp; try omega), Below.heap_alloc _ _ _ (by simp)]; exact heap_alloc_last w _
  have hl2 : (((w.alloc (.cells #[u] 28)).alloc (.cells #[v] 28)).alloc (.cells #[.slice none 0 0] 28)).heap[w.heap.size + 1]? = some (.cells #[v] 28 (0, 0)) := by
    rw [Below.heap_alloc _ _ _ (by simp; try omega)]; exact heap_alloc2_new _ _ _
  have hl3 : (((w.alloc (.cells #[u] 28)).alloc (.cells #[v] 28)).alloc (.cells #[.slice none 0 0] 28)).heap[w.heap.size + 1 + 1]? = some (.cells #[.slice none 0 0] 28 (0, 0)) := by
    have := heap_alloc_last ((w.alloc (.cells #[u] 28)).alloc (.cells #[v] 28)) (.cells #[.slice none 0 0] 28)
    simpa using this
  have L3 := Lib.hid hl3
  have C := Lib.hid (l01Like_any w.heap.size (w.heap.size + 1) u v ss tt _ (cell_of_one hl1) (hu.below hb0) hN hz (cell_of_one hl2) (hv.below hb0) hN2 hz2)
  have h4 := hok
  unfold likeB at h4
  simp only [Bool.and_eq_true, decide_eq_true_eq] at h4
  obtain ⟨⟨⟨v1, v2⟩, e1⟩, e2⟩ := h4
  have CI : Hid (∀ W, Below (((w.alloc (.cells #[u] 28)).alloc (.cells #[v] 28)).alloc (.cells #[.slice none 0 0] 28)).heap.size (((w.alloc (.cells #[u] 28)).alloc (.cells #[v] 28)).alloc (.cells #[.slice none 0 0] 28)) W → Calls Tryd.prog 64 #[.int .i64 0, .pointer (some ⟨w.heap.size, 0, none⟩), .pointer (some ⟨w.heap.size + 1, 0, none⟩)] W (TookPic W (mkPic (row0 ss).size ss.length (joF jF0 ss tt)))) := fun W hb =>
    l01Join_0 w.heap.size (w.heap.size + 1) ss tt W ⟨v1, u, cell_kept hb (cell_of_one hl1), (hu.below hb0).below hb⟩ ⟨v2, v, cell_kept hb (cell_of_one hl2), (hv.below hb0).below hb⟩ e1 e2
  have HX : Hid (inB 0 0 3 = true) := by show inB 0 0 3 = true; decide
  obtain ⟨pic, hpic⟩ : ∃ x, mkPic (row0 ss).size ss.length (joF jF0 ss tt) = x := ⟨_, rfl⟩
  rw [hpic] at CI ⊢
  rw [hok] at C
  clear hok hb0 hl1 hl2 hl3 hu hv hpic v1 v2 e1 e2
  go_enter Tryd.func29, Tryd.ntmps29
  go_wp2_with fail
  refine (l00In_any _ _ _ _).mono ?_
  rintro e w' ⟨rfl, rfl⟩
  rw [HX.out]
  go_wp2_with fail
  refine C.out.mono ?_
  rintro e w1 ⟨rfl, hb1⟩
  have P1 := Lib.hid ((hb1.block (w.heap.size + 1 + 1) (by simp)).trans L3.out)
  have B1 : Hid (Below w.heap.size w w1) := (Joins.below_alloc3 w _ _ _).trans (hb1.mono (by simp; omega))
  have HB1 := Lib.hid hb1
  clear hb1
  go_wp2_with fail
  refine (CI.out _ HB1.out).mono ?_
  rintro e w4 ⟨g4, cap4, rfl, hown4, hb4⟩
  have hp2 := (hb4.block (w.heap.size + 1 + 1) (Array.getElem?_eq_some_iff.1 P1.out).1).trans P1.out
  have hfr : w4.frozen? ⟨w.heap.size + 1 + 1, 0, none⟩ = false := free_of_one hp2
  have hc2 : w4.cell? ⟨w.heap.size + 1 + 1, 0, none⟩ = some (.slice none 0 0) := cell_of_one hp2
  have O2 := Lib.hid (own_set (u := .slice (some ⟨g4, 0, none⟩) pic.length cap4) hown4 hp2 (by decide))
  have P4 := Lib.hid hp2
  have B4 := Lib.hid (B1.out.trans (hb4.mono B1.out.size))
  have hs3 := B1.out.size
  clear hown4 hp2 hb4
  go_wp2_with fail
  refine bodyPost_ret (v := .tuple #[.agg #[.slice (some ⟨g4, 0, none⟩) pic.length cap4], .bool true]) (by simp [results, Tryd.results29, go_sem, cell_of_one (one_setCell P4.out)]) rfl ⟨_, _, _, rfl, Joins.ownsRow_le O2.out hs3, B4.out.setCell (by simp; omega) _⟩

set_option maxHeartbeats 1600000 in
set_option maxRecDepth 100000 in
theorem spec_Join_1 (u v : Value) (ss tt : List ByteArray) (w : World) (hN : ss.length ≤ maxLen) (hz : ∀ s ∈ ss, s.size ≤ maxLen) (hu : Sl w u ss) (hN2 : tt.length ≤ maxLen) (hz2 : ∀ s ∈ tt, s.size ≤ maxLen) (hv : Sl w v tt) (hok : likeB ss tt = true) :
    Calls Tryd.prog 29 #[.int .i64 1, .agg #[u], .agg #[v]] w (SaysPic (mkPic (row0 ss).size ss.length (joF jF1 ss tt)) true w) := by
  have hb0 : Below w.heap.size w (((w.alloc (.cells #[u] 28)).alloc (.cells #[v] 28)).alloc (.cells #[.slice none 0 0] 28)) := Joins.below_alloc3 w _ _ _
  have hl1 : (((w.alloc (.cells #[u] 28)).alloc (.cells #[v] 28)).alloc (.cells #[.slice none 0 0] 28)).heap[w.heap.size]? = some (.cells #[u] 28 (0, 0)) := by
    rw [Below.heap_alloc _ _ _ (by simp; try omega), Below.heap_alloc _ _ _ (by simp)]; exact heap_alloc_last w _
  have hl2 : (((w.alloc (.cells #[u] 28)).alloc (.cells #[v] 28)).alloc (.cells #[.slice none 0 0] 28)).heap[w.heap.size + 1]? = some (.cells #[v] 28 (0, 0)) := by
    rw [Below.heap_alloc _ _ _ (by simp; try omega)]; exact heap_alloc2_new _ _ _
  have hl3 : (((w.alloc (.cells #[u] 28)).alloc (.cells #[v] 28)).alloc (.cells #[.slice none 0 0] 28)).heap[w.heap.size + 1 + 1]? = some (.cells #[.slice none 0 0] 28 (0, 0)) := by
    have := heap_alloc_last ((w.alloc (.cells #[u] 28)).alloc (.cells #[v] 28)) (.cells #[.slice none 0 0] 28)
    simpa using this
  have L3 := Lib.hid hl3
  have C := Lib.hid (l01Like_any w.heap.size (w.heap.size + 1) u v ss tt _ (cell_of_one hl1) (hu.below hb0) hN hz (cell_of_one hl2) (hv.below hb0) hN2 hz2)
  have h4 := hok
  unfold likeB at h4
  simp only [Bool.and_eq_true, decide_eq_true_eq] at h4
  obtain ⟨⟨⟨v1, v2⟩, e1⟩, e2⟩ := h4
  have CI : Hid (∀ W, Below (((w.alloc (.cells #[u] 28)).alloc (.cells #[v] 28)).alloc (.cells #[.slice none 0 0] 28)).heap.size (((w.alloc (.cells #[u] 28)).alloc (.cells #[v] 28)).alloc (.cells #[.slice none 0 0] 28)) W → Calls Tryd.prog 64 #[.int .i64 1, .pointer (some ⟨w.heap.size, 0, none⟩), .pointer (some ⟨w.heap.size + 1, 0, none⟩)] W (TookPic W (mkPic (row0 ss).size ss.length (joF jF1 ss tt)))) := fun W hb =>
    l01Join_1 w.heap.size (w.heap.size + 1) ss tt W ⟨v1, u, cell_kept hb (cell_of_one hl1), (hu.below hb0).below hb⟩ ⟨v2, v, cell_kept hb (cell_of_one hl2), (hv.below hb0).below hb⟩ e1 e2
  have HX : Hid (inB 1 0 3 = true) := by show inB 1 0 3 = true; decide
  obtain ⟨pic, hpic⟩ : ∃ x, mkPic (row0 ss).size ss.length (joF jF1 ss tt) = x := ⟨_, rfl⟩
  rw [hpic] at CI ⊢
  rw [hok] at C
  clear hok hb0 hl1 hl2 hl3 hu hv hpic v1 v2 e1 e2
  go_enter Tryd.func29, Tryd.ntmps29
  go_wp2_with fail
  refine (l00In_any _ _ _ _).mono ?_
  rintro e w' ⟨rfl, rfl⟩
  rw [HX.out]
  go_wp2_with fail
  refine C.out.mono ?_
  rintro e w1 ⟨rfl, hb1⟩
  have P1 := Lib.hid ((hb1.block (w.heap.size + 1 + 1) (by simp)).trans L3.out)
  have B1 : Hid (Below w.heap.size w w1) := (Joins.below_alloc3 w _ _ _).trans (hb1.mono (by simp; omega))
  have HB1 := Lib.hid hb1
  clear hb1
  go_wp2_with fail
  refine (CI.out _ HB1.out).mono ?_
  rintro e w4 ⟨g4, cap4, rfl, hown4, hb4⟩
  have hp2 := (hb4.block (w.heap.size + 1 + 1) (Array.getElem?_eq_some_iff.1 P1.out).1).trans P1.out
  have hfr : w4.frozen? ⟨w.heap.size + 1 + 1, 0, none⟩ = false := free_of_one hp2
  have hc2 : w4.cell? ⟨w.heap.size + 1 + 1, 0, none⟩ = some (.slice none 0 0) := cell_of_one hp2
  have O2 := Lib.hid (own_set (u := .slice (some ⟨g4, 0, none⟩) pic.length cap4) hown4 hp2 (by decide))
  have P4 := Lib.hid hp2
  have B4 := Lib.hid (B1.out.trans (hb4.mono B1.out.size))
  have hs3 := B1.out.size
  clear hown4 hp2 hb4
  go_wp2_with fail
  refine bodyPost_ret (v := .tuple #[.agg #[.slice (some ⟨g4, 0, none⟩) pic.length cap4], .bool true]) (by simp [results, Tryd.results29, go_sem, cell_of_one (one_setCell P4.out)]) rfl ⟨_, _, _, rfl, Joins.ownsRow_le O2.out hs3, B4.out.setCell (by simp; omega) _⟩

set_option maxHeartbeats 1600000 in
set_option maxRecDepth 100000 in
theorem spec_Join_2 (u v : Value) (ss tt : List ByteArray) (w : World) (hN : ss.length ≤ maxLen) (hz : ∀ s ∈ ss, s.size ≤ maxLen) (hu : Sl w u ss) (hN2 : tt.length ≤ maxLen) (hz2 : ∀ s ∈ tt, s.size ≤ maxLen) (hv : Sl w v tt) (hok : likeB ss tt = true) :
    Calls Tryd.prog 29 #[.int .i64 2, .agg #[u], .agg #[v]] w (SaysPic (mkPic (row0 ss).size ss.length (joF jF2 ss tt)) true w) := by
  have hb0 : Below w.heap.size w (((w.alloc (.cells #[u] 28)).alloc (.cells #[v] 28)).alloc (.cells #[.slice none 0 0] 28)) := Joins.below_alloc3 w _ _ _
  have hl1 : (((w.alloc (.cells #[u] 28)).alloc (.cells #[v] 28)).alloc (.cells #[.slice none 0 0] 28)).heap[w.heap.size]? = some (.cells #[u] 28 (0, 0)) := by
    rw [Below.heap_alloc _ _ _ (by simp; try omega), Below.heap_alloc _ _ _ (by simp)]; exact heap_alloc_last w _
  have hl2 : (((w.alloc (.cells #[u] 28)).alloc (.cells #[v] 28)).alloc (.cells #[.slice none 0 0] 28)).heap[w.heap.size + 1]? = some (.cells #[v] 28 (0, 0)) := by
    rw [Below.heap_alloc _ _ _ (by simp; try omega)]; exact heap_alloc2_new _ _ _
  have hl3 : (((w.alloc (.cells #[u] 28)).alloc (.cells #[v] 28)).alloc (.cells #[.slice none 0 0] 28)).heap[w.heap.size + 1 + 1]? = some (.cells #[.slice none 0 0] 28 (0, 0)) := by
    have := heap_alloc_last ((w.alloc (.cells #[u] 28)).alloc (.cells #[v] 28)) (.cells #[.slice none 0 0] 28)
    simpa using this
  have L3 := Lib.hid hl3
  have C := Lib.hid (l01Like_any w.heap.size (w.heap.size + 1) u v ss tt _ (cell_of_one hl1) (hu.below hb0) hN hz (cell_of_one hl2) (hv.below hb0) hN2 hz2)
  have h4 := hok
  unfold likeB at h4
  simp only [Bool.and_eq_true, decide_eq_true_eq] at h4
  obtain ⟨⟨⟨v1, v2⟩, e1⟩, e2⟩ := h4
  have CI : Hid (∀ W, Below (((w.alloc (.cells #[u] 28)).alloc (.cells #[v] 28)).alloc (.cells #[.slice none 0 0] 28)).heap.size (((w.alloc (.cells #[u] 28)).alloc (.cells #[v] 28)).alloc (.cells #[.slice none 0 0] 28)) W → Calls Tryd.prog 64 #[.int .i64 2, .pointer (some ⟨w.heap.size, 0, none⟩), .pointer (some ⟨w.heap.size + 1, 0, none⟩)] W (TookPic W (mkPic (row0 ss).size ss.length (joF jF2 ss tt)))) := fun W hb =>
    l01Join_2 w.heap.size (w.heap.size + 1) ss tt W ⟨v1, u, cell_kept hb (cell_of_one hl1), (hu.below hb0).below hb⟩ ⟨v2, v, cell_kept hb (cell_of_one hl2), (hv.below hb0).below hb⟩ e1 e2
  have HX : Hid (inB 2 0 3 = true) := by show inB 2 0 3 = true; decide
  obtain ⟨pic, hpic⟩ : ∃ x, mkPic (row0 ss).size ss.length (joF jF2 ss tt) = x := ⟨_, rfl⟩
  rw [hpic] at CI ⊢
  rw [hok] at C
  clear hok hb0 hl1 hl2 hl3 hu hv hpic v1 v2 e1 e2
  go_enter Tryd.func29, Tryd.ntmps29
  go_wp2_with fail
  refine (l00In_any _ _ _ _).mono ?_
  rintro e w' ⟨rfl, rfl⟩
  rw [HX.out]
  go_wp2_with fail
  refine C.out.mono ?_
  rintro e w1 ⟨rfl, hb1⟩
  have P1 := Lib.hid ((hb1.block (w.heap.size + 1 + 1) (by simp)).trans L3.out)
  have B1 : Hid (Below w.heap.size w w1) := (Joins.below_alloc3 w _ _ _).trans (hb1.mono (by simp; omega))
  have HB1 := Lib.hid hb1
  clear hb1
  go_wp2_with fail
  refine (CI.out _ HB1.out).mono ?_
  rintro e w4 ⟨g4, cap4, rfl, hown4, hb4⟩
  have hp2 := (hb4.block (w.heap.size + 1 + 1) (Array.getElem?_eq_some_iff.1 P1.out).1).trans P1.out
  have hfr : w4.frozen? ⟨w.heap.size + 1 + 1, 0, none⟩ = false := free_of_one hp2
  have hc2 : w4.cell? ⟨w.heap.size + 1 + 1, 0, none⟩ = some (.slice none 0 0) := cell_of_one hp2
  have O2 := Lib.hid (own_set (u := .slice (some ⟨g4, 0, none⟩) pic.length cap4) hown4 hp2 (by decide))
  have P4 := Lib.hid hp2
  have B4 := Lib.hid (B1.out.trans (hb4.mono B1.out.size))
  have hs3 := B1.out.size
  clear hown4 hp2 hb4
  go_wp2_with fail
  refine bodyPost_ret (v := .tuple #[.agg #[.slice (some ⟨g4, 0, none⟩) pic.length cap4], .bool true]) (by simp [results, Tryd.results29, go_sem, cell_of_one (one_setCell P4.out)]) rfl ⟨_, _, _, rfl, Joins.ownsRow_le O2.out hs3, B4.out.setCell (by simp; omega) _⟩

set_option maxHeartbeats 1600000 in
set_option maxRecDepth 100000 in
theorem spec_Join_3 (u v : Value) (ss tt : List ByteArray) (w : World) (hN : ss.length ≤ maxLen) (hz : ∀ s ∈ ss, s.size ≤ maxLen) (hu : Sl w u ss) (hN2 : tt.length ≤ maxLen) (hz2 : ∀ s ∈ tt, s.size ≤ maxLen) (hv : Sl w v tt) (hok : likeB ss tt = true) :
    Calls Tryd.prog 29 #[.int .i64 3, .agg #[u], .agg #[v]] w (SaysPic (mkPic (row0 ss).size ss.length (joF jF3 ss tt)) true w) := by
  have hb0 : Below w.heap.size w (((w.alloc (.cells #[u] 28)).alloc (.cells #[v] 28)).alloc (.cells #[.slice none 0 0] 28)) := Joins.below_alloc3 w _ _ _
  have hl1 : (((w.alloc (.cells #[u] 28)).alloc (.cells #[v] 28)).alloc (.cells #[.slice none 0 0] 28)).heap[w.heap.size]? = some (.cells #[u] 28 (0, 0)) := by
    rw [Below.heap_alloc _ _ _ (by simp; try omega), Below.heap_alloc _ _ _ (by simp)]; exact heap_alloc_last w _
  have hl2 : (((w.alloc (.cells #[u] 28)).alloc (.cells #[v] 28)).alloc (.cells #[.slice none 0 0] 28)).heap[w.heap.size + 1]? = some (.cells #[v] 28 (0, 0)) := by
    rw [Below.heap_alloc _ _ _ (by simp; try omega)]; exact heap_alloc2_new _ _ _
  have hl3 : (((w.alloc (.cells #[u] 28)).alloc (.cells #[v] 28)).alloc (.cells #[.slice none 0 0] 28)).heap[w.heap.size + 1 + 1]? = some (.cells #[.slice none 0 0] 28 (0, 0)) := by
    have := heap_alloc_last ((w.alloc (.cells #[u] 28)).alloc (.cells #[v] 28)) (.cells #[.slice none 0 0] 28)
    simpa using this
  have L3 := Lib.hid hl3
  have C := Lib.hid (l01Like_any w.heap.size (w.heap.size + 1) u v ss tt _ (cell_of_one hl1) (hu.below hb0) hN hz (cell_of_one hl2) (hv.below hb0) hN2 hz2)
  have h4 := hok
  unfold likeB at h4
  simp only [Bool.and_eq_true, decide_eq_true_eq] at h4
  obtain ⟨⟨⟨v1, v2⟩, e1⟩, e2⟩ := h4
  have CI : Hid (∀ W, Below (((w.alloc (.cells #[u] 28)).alloc (.cells #[v] 28)).alloc (.cells #[.slice none 0 0] 28)).heap.size (((w.alloc (.cells #[u] 28)).alloc (.cells #[v] 28)).alloc (.cells #[.slice none 0 0] 28)) W → Calls Tryd.prog 64 #[.int .i64 3, .pointer (some ⟨w.heap.size, 0, none⟩), .pointer (some ⟨w.heap.size + 1, 0, none⟩)] W (TookPic W (mkPic (row0 ss).size ss.length (joF jF3 ss tt)))) := fun W hb =>
    l01Join_3 w.heap.size (w.heap.size + 1) ss tt W ⟨v1, u, cell_kept hb (cell_of_one hl1), (hu.below hb0).below hb⟩ ⟨v2, v, cell_kept hb (cell_of_one hl2), (hv.below hb0).below hb⟩ e1 e2
  have HX : Hid (inB 3 0 3 = true) := by show inB 3 0 3 = true; decide
  obtain ⟨pic, hpic⟩ : ∃ x, mkPic (row0 ss).size ss.length (joF jF3 ss tt) = x := ⟨_, rfl⟩
  rw [hpic] at CI ⊢
  rw [hok] at C
  clear hok hb0 hl1 hl2 hl3 hu hv hpic v1 v2 e1 e2
  go_enter Tryd.func29, Tryd.ntmps29
  go_wp2_with fail
  refine (l00In_any _ _ _ _).mono ?_
  rintro e w' ⟨rfl, rfl⟩
  rw [HX.out]
  go_wp2_with fail
  refine C.out.mono ?_
  rintro e w1 ⟨rfl, hb1⟩
  have P1 := Lib.hid ((hb1.block (w.heap.size + 1 + 1) (by simp)).trans L3.out)
  have B1 : Hid (Below w.heap.size w w1) := (Joins.below_alloc3 w _ _ _).trans (hb1.mono (by simp; omega))
  have HB1 := Lib.hid hb1
  clear hb1
  go_wp2_with fail
  refine (CI.out _ HB1.out).mono ?_
  rintro e w4 ⟨g4, cap4, rfl, hown4, hb4⟩
  have hp2 := (hb4.block (w.heap.size + 1 + 1) (Array.getElem?_eq_some_iff.1 P1.out).1).trans P1.out
  have hfr : w4.frozen? ⟨w.heap.size + 1 + 1, 0, none⟩ = false := free_of_one hp2
  have hc2 : w4.cell? ⟨w.heap.size + 1 + 1, 0, none⟩ = some (.slice none 0 0) := cell_of_one hp2
  have O2 := Lib.hid (own_set (u := .slice (some ⟨g4, 0, none⟩) pic.length cap4) hown4 hp2 (by decide))
  have P4 := Lib.hid hp2
  have B4 := Lib.hid (B1.out.trans (hb4.mono B1.out.size))
  have hs3 := B1.out.size
  clear hown4 hp2 hb4
  go_wp2_with fail
  refine bodyPost_ret (v := .tuple #[.agg #[.slice (some ⟨g4, 0, none⟩) pic.length cap4], .bool true]) (by simp [results, Tryd.results29, go_sem, cell_of_one (one_setCell P4.out)]) rfl ⟨_, _, _, rfl, Joins.ownsRow_le O2.out hs3, B4.out.setCell (by simp; omega) _⟩
end Go.Proofs.YtfdefbfakdndiaaDoor
