/- Contracts of single functions, and plain lemmas, on which the exact laws of this seat rest; each holds under the conditions that it states. -/
import Derived.Test.YtfdefbfakdndiaaDoorTb
namespace Go.Proofs.YtfdefbfakdndiaaDoor
set_option linter.unusedVariables false
open Go.RowKit

set_option maxHeartbeats 1600000 in
set_option maxRecDepth 100000 in
theorem spec_Turn_no (v : Value) (ss : List ByteArray) (kind : Int) (w : World) (hN : ss.length ≤ maxLen) (hz : ∀ s ∈ ss, s.size ≤ maxLen) (hv : Sl w v ss) (hno : (validB ss && inB kind 0 3) = false) :
    Calls Tryd.prog 40 #[.agg #[v], .int .i64 kind] w (SaysPic [] false w) := by
  have hb0 : Below w.heap.size w ((w.alloc (.cells #[v] 28)).alloc (.cells #[.slice none 0 0] 28)) := Joins.below_alloc2 w _ _
  have hl1 : ((w.alloc (.cells #[v] 28)).alloc (.cells #[.slice none 0 0] 28)).heap[w.heap.size]? = some (.cells #[v] 28 (0, 0)) := by
    rw [Below.heap_alloc _ _ _ (by simp)]; exact heap_alloc_last w _
  have hl2 : ((w.alloc (.cells #[v] 28)).alloc (.cells #[.slice none 0 0] 28)).heap[w.heap.size + 1]? = some (.cells #[.slice none 0 0] 28 (0, 0)) := by
    have := heap_alloc_last (w.alloc (.cells #[v] 28)) (.cells #[.slice none 0 0] 28)
    simp only [World.size_alloc] at this
    exact this
  have L2 := Lib.hid hl2
  have C := Lib.hid (l01Is_any w.heap.size 0 v ss _ (cell_of_one hl1) (hv.below hb0) hN hz)
  cases hva : validB ss with
  | false =>
    have HOk := Lib.hid hva
    clear hva hb0 hl1 hl2 hv hno
    go_enter Tryd.func40, Tryd.ntmps40
    go_wp2_with fail
    refine C.out.mono ?_
    rintro e w1 ⟨rfl, hb1⟩
    rw [HOk.out]
    have hp1 := (hb1.block (w.heap.size + 1) (by simp)).trans L2.out
    have hfr : w1.frozen? ⟨w.heap.size + 1, 0, none⟩ = false := free_of_one hp1
    have hc2 : w1.cell? ⟨w.heap.size + 1, 0, none⟩ = some (.slice none 0 0) := cell_of_one hp1
    have B1 : Hid (Below w.heap.size w w1) := (Joins.below_alloc2 w _ _).trans (hb1.mono (by simp; omega))
    have P1 := Lib.hid hp1
    clear hb1 hp1
    go_wp2_with fail
    refine bodyPost_ret (v := .tuple #[.agg #[.slice none 0 0], .bool false]) (by simp [results, Tryd.results40, go_sem, cell_of_one (one_setCell P1.out)]) rfl ⟨_, _, _, rfl, World.ownsRow_nil _ _ _ _, B1.out.setCell (by simp) _⟩
  | true =>
    have hx : inB kind 0 3 = false := by rw [hva] at hno; simpa using hno
    have HOk := Lib.hid hva
    have HX := Lib.hid hx
    clear hx
    clear hva hb0 hl1 hl2 hv hno
    go_enter Tryd.func40, Tryd.ntmps40
    go_wp2_with fail
    refine C.out.mono ?_
    rintro e w1 ⟨rfl, hb1⟩
    rw [HOk.out]
    have hp1 := (hb1.block (w.heap.size + 1) (by simp)).trans L2.out
    have hfr : w1.frozen? ⟨w.heap.size + 1, 0, none⟩ = false := free_of_one hp1
    have hc2 : w1.cell? ⟨w.heap.size + 1, 0, none⟩ = some (.slice none 0 0) := cell_of_one hp1
    have B1 : Hid (Below w.heap.size w w1) := (Joins.below_alloc2 w _ _).trans (hb1.mono (by simp; omega))
    have P1 := Lib.hid hp1
    clear hb1 hp1
    go_wp2_with fail
    refine (l00In_any _ _ _ _).mono ?_
    rintro e w' ⟨rfl, rfl⟩
    rw [HX.out]
    go_wp2_with fail
    refine bodyPost_ret (v := .tuple #[.agg #[.slice none 0 0], .bool false]) (by simp [results, Tryd.results40, go_sem, cell_of_one (one_setCell P1.out)]) rfl ⟨_, _, _, rfl, World.ownsRow_nil _ _ _ _, B1.out.setCell (by simp) _⟩

set_option maxHeartbeats 1600000 in
set_option maxRecDepth 100000 in
theorem spec_Turn_0 (v : Value) (ss : List ByteArray) (a b : Nat) (w : World) (ha : (row0 ss).size = a) (hb : ss.length = b) (hN : ss.length ≤ maxLen) (hz : ∀ s ∈ ss, s.size ≤ maxLen) (hv : Sl w v ss) (hva : validB ss = true) :
    Calls Tryd.prog 40 #[.agg #[v], .int .i64 0] w (SaysPic (mkPic a b (tu0 ss a b)) true w) := by
  have hb0 : Below w.heap.size w ((w.alloc (.cells #[v] 28)).alloc (.cells #[.slice none 0 0] 28)) := Joins.below_alloc2 w _ _
  have hl1 : ((w.alloc (.cells #[v] 28)).alloc (.cells #[.slice none 0 0] 28)).heap[w.heap.size]? = some (.cells #[v] 28 (0, 0)) := by
    rw [Below.heap_alloc _ _ _ (by simp)]; exact heap_alloc_last w _
  have hl2 : ((w.alloc (.cells #[v] 28)).alloc (.cells #[.slice none 0 0] 28)).heap[w.heap.size + 1]? = some (.cells #[.slice none 0 0] 28 (0, 0)) := by
    have := heap_alloc_last (w.alloc (.cells #[v] 28)) (.cells #[.slice none 0 0] 28)
    simp only [World.size_alloc] at this
    exact this
  have L2 := Lib.hid hl2
  have C := Lib.hid (l01Is_any w.heap.size 0 v ss _ (cell_of_one hl1) (hv.below hb0) hN hz)
  have hpa : ∀ W, Below ((w.alloc (.cells #[v] 28)).alloc (.cells #[.slice none 0 0] 28)).heap.size ((w.alloc (.cells #[v] 28)).alloc (.cells #[.slice none 0 0] 28)) W → PicAt W w.heap.size 0 ss := fun W hb =>
        ⟨hva, v, cell_kept hb (cell_of_one hl1), (hv.below hb0).below hb⟩
  have HP := Lib.hid hpa
  have HOk := Lib.hid hva
  have HX : Hid (inB 0 0 3 = true) := by show inB 0 0 3 = true; decide
  have CI : Hid (∀ W, PicAt W w.heap.size 0 ss → Calls Tryd.prog 80 #[.pointer (some ⟨w.heap.size, 0, none⟩), .int .i64 0] W (TookPic W (mkPic a b (tu0 ss a b)))) := fun W h => l01Turn_0 _ _ ss W a b ha hb h
  obtain ⟨pic, hpic⟩ : ∃ x, mkPic a b (tu0 ss a b) = x := ⟨_, rfl⟩
  rw [hpic] at CI ⊢
  clear hb0 hl1 hl2 hv hpa hpic hva ha hb
  go_enter Tryd.func40, Tryd.ntmps40
  go_wp2_with fail
  refine C.out.mono ?_
  rintro e w1 ⟨rfl, hb1⟩
  rw [HOk.out]
  have A1 := Lib.hid (HP.out _ hb1)
  have P1 := Lib.hid ((hb1.block (w.heap.size + 1) (by simp)).trans L2.out)
  have B1 : Hid (Below w.heap.size w w1) := (Joins.below_alloc2 w _ _).trans (hb1.mono (by simp; omega))
  clear hb1
  go_wp2_with fail
  refine (l00In_any _ _ _ _).mono ?_
  rintro e w' ⟨rfl, rfl⟩
  rw [HX.out]
  go_wp2_with fail
  refine (CI.out _ A1.out).mono ?_
  rintro e w4 ⟨g4, cap4, rfl, hown4, hb4⟩
  have hp2 := (hb4.block (w.heap.size + 1) (Array.getElem?_eq_some_iff.1 P1.out).1).trans P1.out
  have hfr : w4.frozen? ⟨w.heap.size + 1, 0, none⟩ = false := free_of_one hp2
  have hc2 : w4.cell? ⟨w.heap.size + 1, 0, none⟩ = some (.slice none 0 0) := cell_of_one hp2
  have O2 := Lib.hid (own_set (u := .slice (some ⟨g4, 0, none⟩) pic.length cap4) hown4 hp2 (by decide))
  have P4 := Lib.hid hp2
  have B4 := Lib.hid (B1.out.trans (hb4.mono B1.out.size))
  have hs3 := B1.out.size
  clear hown4 hp2 hb4
  go_wp2_with fail
  refine bodyPost_ret (v := .tuple #[.agg #[.slice (some ⟨g4, 0, none⟩) pic.length cap4], .bool true]) (by simp [results, Tryd.results40, go_sem, cell_of_one (one_setCell P4.out)]) rfl ⟨_, _, _, rfl, Joins.ownsRow_le O2.out hs3, B4.out.setCell (by simp) _⟩

set_option maxHeartbeats 1600000 in
set_option maxRecDepth 100000 in
theorem spec_Turn_1 (v : Value) (ss : List ByteArray) (a b : Nat) (w : World) (ha : (row0 ss).size = a) (hb : ss.length = b) (hN : ss.length ≤ maxLen) (hz : ∀ s ∈ ss, s.size ≤ maxLen) (hv : Sl w v ss) (hva : validB ss = true) :
    Calls Tryd.prog 40 #[.agg #[v], .int .i64 1] w (SaysPic (mkPic a b (tu1 ss a b)) true w) := by
  have hb0 : Below w.heap.size w ((w.alloc (.cells #[v] 28)).alloc (.cells #[.slice none 0 0] 28)) := Joins.below_alloc2 w _ _
  have hl1 : ((w.alloc (.cells #[v] 28)).alloc (.cells #[.slice none 0 0] 28)).heap[w.heap.size]? = some (.cells #[v] 28 (0, 0)) := by
    rw [Below.heap_alloc _ _ _ (by simp)]; exact heap_alloc_last w _
  have hl2 : ((w.alloc (.cells #[v] 28)).alloc (.cells #[.slice none 0 0] 28)).heap[w.heap.size + 1]? = some (.cells #[.slice none 0 0] 28 (0, 0)) := by
    have := heap_alloc_last (w.alloc (.cells #[v] 28)) (.cells #[.slice none 0 0] 28)
    simp only [World.size_alloc] at this
    exact this
  have L2 := Lib.hid hl2
  have C := Lib.hid (l01Is_any w.heap.size 0 v ss _ (cell_of_one hl1) (hv.below hb0) hN hz)
  have hpa : ∀ W, Below ((w.alloc (.cells #[v] 28)).alloc (.cells #[.slice none 0 0] 28)).heap.size ((w.alloc (.cells #[v] 28)).alloc (.cells #[.slice none 0 0] 28)) W → PicAt W w.heap.size 0 ss := fun W hb =>
        ⟨hva, v, cell_kept hb (cell_of_one hl1), (hv.below hb0).below hb⟩
  have HP := Lib.hid hpa
  have HOk := Lib.hid hva
  have HX : Hid (inB 1 0 3 = true) := by show inB 1 0 3 = true; decide
  have CI : Hid (∀ W, PicAt W w.heap.size 0 ss → Calls Tryd.prog 80 #[.pointer (some ⟨w.heap.size, 0, none⟩), .int .i64 1] W (TookPic W (mkPic a b (tu1 ss a b)))) := fun W h => l01Turn_1 _ _ ss W a b ha hb h
  obtain ⟨pic, hpic⟩ : ∃ x, mkPic a b (tu1 ss a b) = x := ⟨_, rfl⟩
  rw [hpic] at CI ⊢
  clear hb0 hl1 hl2 hv hpa hpic hva ha hb
  go_enter Tryd.func40, Tryd.ntmps40
  go_wp2_with fail
  refine C.out.mono ?_
  rintro e w1 ⟨rfl, hb1⟩
  rw [HOk.out]
  have A1 := Lib.hid (HP.out _ hb1)
  have P1 := Lib.hid ((hb1.block (w.heap.size + 1) (by simp)).trans L2.out)
  have B1 : Hid (Below w.heap.size w w1) := (Joins.below_alloc2 w _ _).trans (hb1.mono (by simp; omega))
  clear hb1
  go_wp2_with fail
  refine (l00In_any _ _ _ _).mono ?_
  rintro e w' ⟨rfl, rfl⟩
  rw [HX.out]
  go_wp2_with fail
  refine (CI.out _ A1.out).mono ?_
  rintro e w4 ⟨g4, cap4, rfl, hown4, hb4⟩
  have hp2 := (hb4.block (w.heap.size + 1) (Array.getElem?_eq_some_iff.1 P1.out).1).trans P1.out
  have hfr : w4.frozen? ⟨w.heap.size + 1, 0, none⟩ = false := free_of_one hp2
  have hc2 : w4.cell? ⟨w.heap.size + 1, 0, none⟩ = some (.slice none 0 0) := cell_of_one hp2
  have O2 := Lib.hid (own_set (u := .slice (some ⟨g4, 0, none⟩) pic.length cap4) hown4 hp2 (by decide))
  have P4 := Lib.hid hp2
  have B4 := Lib.hid (B1.out.trans (hb4.mono B1.out.size))
  have hs3 := B1.out.size
  clear hown4 hp2 hb4
  go_wp2_with fail
  refine bodyPost_ret (v := .tuple #[.agg #[.slice (some ⟨g4, 0, none⟩) pic.length cap4], .bool true]) (by simp [results, Tryd.results40, go_sem, cell_of_one (one_setCell P4.out)]) rfl ⟨_, _, _, rfl, Joins.ownsRow_le O2.out hs3, B4.out.setCell (by simp) _⟩

set_option maxHeartbeats 1600000 in
set_option maxRecDepth 100000 in
theorem spec_Turn_2 (v : Value) (ss : List ByteArray) (a b : Nat) (w : World) (ha : (row0 ss).size = a) (hb : ss.length = b) (hN : ss.length ≤ maxLen) (hz : ∀ s ∈ ss, s.size ≤ maxLen) (hv : Sl w v ss) (hva : validB ss = true) :
    Calls Tryd.prog 40 #[.agg #[v], .int .i64 2] w (SaysPic (mkPic b a (tu2 ss a b)) true w) := by
  have hb0 : Below w.heap.size w ((w.alloc (.cells #[v] 28)).alloc (.cells #[.slice none 0 0] 28)) := Joins.below_alloc2 w _ _
  have hl1 : ((w.alloc (.cells #[v] 28)).alloc (.cells #[.slice none 0 0] 28)).heap[w.heap.size]? = some (.cells #[v] 28 (0, 0)) := by
    rw [Below.heap_alloc _ _ _ (by simp)]; exact heap_alloc_last w _
  have hl2 : ((w.alloc (.cells #[v] 28)).alloc (.cells #[.slice none 0 0] 28)).heap[w.heap.size + 1]? = some (.cells #[.slice none 0 0] 28 (0, 0)) := by
    have := heap_alloc_last (w.alloc (.cells #[v] 28)) (.cells #[.slice none 0 0] 28)
    simp only [World.size_alloc] at this
    exact this
  have L2 := Lib.hid hl2
  have C := Lib.hid (l01Is_any w.heap.size 0 v ss _ (cell_of_one hl1) (hv.below hb0) hN hz)
  have hpa : ∀ W, Below ((w.alloc (.cells #[v] 28)).alloc (.cells #[.slice none 0 0] 28)).heap.size ((w.alloc (.cells #[v] 28)).alloc (.cells #[.slice none 0 0] 28)) W → PicAt W w.heap.size 0 ss := fun W hb =>
        ⟨hva, v, cell_kept hb (cell_of_one hl1), (hv.below hb0).below hb⟩
  have HP := Lib.hid hpa
  have HOk := Lib.hid hva
  have HX : Hid (inB 2 0 3 = true) := by show inB 2 0 3 = true; decide
  have CI : Hid (∀ W, PicAt W w.heap.size 0 ss → Calls Tryd.prog 80 #[.pointer (some ⟨w.heap.size, 0, none⟩), .int .i64 2] W (TookPic W (mkPic b a (tu2 ss a b)))) := fun W h => l01Turn_2 _ _ ss W a b ha hb h
  obtain ⟨pic, hpic⟩ : ∃ x, mkPic b a (tu2 ss a b) = x := ⟨_, rfl⟩
  rw [hpic] at CI ⊢
  clear hb0 hl1 hl2 hv hpa hpic hva ha hb
  go_enter Tryd.func40, Tryd.ntmps40
  go_wp2_with fail
  refine C.out.mono ?_
  rintro e w1 ⟨rfl, hb1⟩
  rw [HOk.out]
  have A1 := Lib.hid (HP.out _ hb1)
  have P1 := Lib.hid ((hb1.block (w.heap.size + 1) (by simp)).trans L2.out)
  have B1 : Hid (Below w.heap.size w w1) := (Joins.below_alloc2 w _ _).trans (hb1.mono (by simp; omega))
  clear hb1
  go_wp2_with fail
  refine (l00In_any _ _ _ _).mono ?_
  rintro e w' ⟨rfl, rfl⟩
  rw [HX.out]
  go_wp2_with fail
  refine (CI.out _ A1.out).mono ?_
  rintro e w4 ⟨g4, cap4, rfl, hown4, hb4⟩
  have hp2 := (hb4.block (w.heap.size + 1) (Array.getElem?_eq_some_iff.1 P1.out).1).trans P1.out
  have hfr : w4.frozen? ⟨w.heap.size + 1, 0, none⟩ = false := free_of_one hp2
  have hc2 : w4.cell? ⟨w.heap.size + 1, 0, none⟩ = some (.slice none 0 0) := cell_of_one hp2
  have O2 := Lib.hid (own_set (u := .slice (some ⟨g4, 0, none⟩) pic.length cap4) hown4 hp2 (by decide))
  have P4 := Lib.hid hp2
  have B4 := Lib.hid (B1.out.trans (hb4.mono B1.out.size))
  have hs3 := B1.out.size
  clear hown4 hp2 hb4
  go_wp2_with fail
  refine bodyPost_ret (v := .tuple #[.agg #[.slice (some ⟨g4, 0, none⟩) pic.length cap4], .bool true]) (by simp [results, Tryd.results40, go_sem, cell_of_one (one_setCell P4.out)]) rfl ⟨_, _, _, rfl, Joins.ownsRow_le O2.out hs3, B4.out.setCell (by simp) _⟩

set_option maxHeartbeats 1600000 in
set_option maxRecDepth 100000 in
theorem spec_Turn_3 (v : Value) (ss : List ByteArray) (a b : Nat) (w : World) (ha : (row0 ss).size = a) (hb : ss.length = b) (hN : ss.length ≤ maxLen) (hz : ∀ s ∈ ss, s.size ≤ maxLen) (hv : Sl w v ss) (hva : validB ss = true) :
    Calls Tryd.prog 40 #[.agg #[v], .int .i64 3] w (SaysPic (mkPic b a (tu3 ss a b)) true w) := by
  have hb0 : Below w.heap.size w ((w.alloc (.cells #[v] 28)).alloc (.cells #[.slice none 0 0] 28)) := Joins.below_alloc2 w _ _
  have hl1 : ((w.alloc (.cells #[v] 28)).alloc (.cells #[.slice none 0 0] 28)).heap[w.heap.size]? = some (.cells #[v] 28 (0, 0)) := by
    rw [Below.heap_alloc _ _ _ (by simp)]; exact heap_alloc_last w _
  have hl2 : ((w.alloc (.cells #[v] 28)).alloc (.cells #[.slice none 0 0] 28)).heap[w.heap.size + 1]? = some (.cells #[.slice none 0 0] 28 (0, 0)) := by
    have := heap_alloc_last (w.alloc (.cells #[v] 28)) (.cells #[.slice none 0 0] 28)
    simp only [World.size_alloc] at this
    exact this
  have L2 := Lib.hid hl2
  have C := Lib.hid (l01Is_any w.heap.size 0 v ss _ (cell_of_one hl1) (hv.below hb0) hN hz)
  have hpa : ∀ W, Below ((w.alloc (.cells #[v] 28)).alloc (.cells #[.slice none 0 0] 28)).heap.size ((w.alloc (.cells #[v] 28)).alloc (.cells #[.slice none 0 0] 28)) W → PicAt W w.heap.size 0 ss := fun W hb =>
        ⟨hva, v, cell_kept hb (cell_of_one hl1), (hv.below hb0).below hb⟩
  have HP := Lib.hid hpa
  have HOk := Lib.hid hva
  have HX : Hid (inB 3 0 3 = true) := by show inB 3 0 3 = true; decide
  have CI : Hid (∀ W, PicAt W w.heap.size 0 ss → Calls Tryd.prog 80 #[.pointer (some ⟨w.heap.size, 0, none⟩), .int .i64 3] W (TookPic W (mkPic b a (tu3 ss a b)))) := fun W h => l01Turn_3 _ _ ss W a b ha hb h
  obtain ⟨pic, hpic⟩ : ∃ x, mkPic b a (tu3 ss a b) = x := ⟨_, rfl⟩
  rw [hpic] at CI ⊢
  clear hb0 hl1 hl2 hv hpa hpic hva ha hb
  go_enter Tryd.func40, Tryd.ntmps40
  go_wp2_with fail
  refine C.out.mono ?_
  rintro e w1 ⟨rfl, hb1⟩
  rw [HOk.out]
  have A1 := Lib.hid (HP.out _ hb1)
  have P1 := Lib.hid ((hb1.block (w.heap.size + 1) (by simp)).trans L2.out)
  have B1 : Hid (Below w.heap.size w w1) := (Joins.below_alloc2 w _ _).trans (hb1.mono (by simp; omega))
  clear hb1
  go_wp2_with fail
  refine (l00In_any _ _ _ _).mono ?_
  rintro e w' ⟨rfl, rfl⟩
  rw [HX.out]
  go_wp2_with fail
  refine (CI.out _ A1.out).mono ?_
  rintro e w4 ⟨g4, cap4, rfl, hown4, hb4⟩
  have hp2 := (hb4.block (w.heap.size + 1) (Array.getElem?_eq_some_iff.1 P1.out).1).trans P1.out
  have hfr : w4.frozen? ⟨w.heap.size + 1, 0, none⟩ = false := free_of_one hp2
  have hc2 : w4.cell? ⟨w.heap.size + 1, 0, none⟩ = some (.slice none 0 0) := cell_of_one hp2
  have O2 := Lib.hid (own_set (u := .slice (some ⟨g4, 0, none⟩) pic.length cap4) hown4 hp2 (by decide))
  have P4 := Lib.hid hp2
  have B4 := Lib.hid (B1.out.trans (hb4.mono B1.out.size))
  have hs3 := B1.out.size
  clear hown4 hp2 hb4
  go_wp2_with fail
  refine bodyPost_ret (v := .tuple #[.agg #[.slice (some ⟨g4, 0, none⟩) pic.length cap4], .bool true]) (by simp [results, Tryd.results40, go_sem, cell_of_one (one_setCell P4.out)]) rfl ⟨_, _, _, rfl, Joins.ownsRow_le O2.out hs3, B4.out.setCell (by simp) _⟩
end Go.Proofs.YtfdefbfakdndiaaDoor
