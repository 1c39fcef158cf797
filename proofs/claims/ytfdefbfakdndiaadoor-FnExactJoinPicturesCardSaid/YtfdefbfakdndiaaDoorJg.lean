/- Contracts of single functions, and plain lemmas, on which the exact laws of this seat rest; each holds under the conditions that it states. -/
import Derived.Test.YtfdefbfakdndiaaDoorJe
namespace Go.Proofs.YtfdefbfakdndiaaDoor
set_option linter.unusedVariables false
set_option linter.unusedSimpArgs false
open Go.RowKit

theorem after_alloc2 {w w1 : World} {M M2 : Array Value} {P : Nat} {t t2 : TypeId} {x u : Value} (hP : w1.heap[P]? = some (.cells #[x] t (0, 0))) (hb : Below w.heap.size w w1) (hw : w.heap.size ≤ P) :
    (((w1.setCell ⟨P, 0, none⟩ u).alloc (.cells M t2)).alloc (.cells M2 t2)).cell? ⟨P, 0, none⟩ = some u ∧ Below w.heap.size w (((w1.setCell ⟨P, 0, none⟩ u).alloc (.cells M t2)).alloc (.cells M2 t2)) := by
  have hl := (Array.getElem?_eq_some_iff.1 hP).1
  have hss : (w1.setCell ⟨P, 0, none⟩ u).heap.size = w1.heap.size := by simp [World.setCell]
  have h1 := after_alloc (M := M) (t2 := t2) (u := u) hP hb hw
  have hs := h1.2.size
  refine ⟨cell_of_one ((Below.heap_alloc _ _ P (by rw [World.size_alloc, hss]; omega)).trans ((Below.heap_alloc _ _ P (by rw [hss]; exact hl)).trans (one_setCell hP))), h1.2.alloc hs _⟩

set_option maxHeartbeats 400000 in
theorem exists_no (op : Int) (w : World) (h : ¬ (0 ≤ op ∧ op ≤ 3)) : Calls Tryd.prog 66 #[.int .i64 op] w fun e w' => e = .returned (.bool false) ∧ w = w' := by
  have h0 : (op == 0) = false := by rw [beq_eq_false_iff_ne]; omega
  have h1 : (op == 1) = false := by rw [beq_eq_false_iff_ne]; omega
  have h2 : (op == 2) = false := by rw [beq_eq_false_iff_ne]; omega
  have h3 : (op == 3) = false := by rw [beq_eq_false_iff_ne]; omega
  clear h
  go_enter Tryd.func66, Tryd.ntmps66
  go_wp2
  go_ret
  exact ⟨rfl, rfl⟩

set_option maxHeartbeats 2000000 in
set_option maxRecDepth 100000 in
theorem impl_Join_no (op : Int) (u v : Value) (ss tt : List ByteArray) (w : World) (hN : ss.length ≤ maxLen) (hz : ∀ s ∈ ss, s.size ≤ maxLen) (hu : Sl w u ss) (hN2 : tt.length ≤ maxLen) (hz2 : ∀ s ∈ tt, s.size ≤ maxLen) (hv : Sl w v tt) (he : ErrLen w) (hno : (inB op 0 3 && likeB ss tt) = false) :
    Calls Tryd.prog 30 #[.int .i64 op, .agg #[u], .agg #[v]] w (SaysPic [] false w) := by
  have hb0 : Below w.heap.size w (((w.alloc (.cells #[u] 28)).alloc (.cells #[v] 28)).alloc (.cells #[.slice none 0 0] 28)) := Joins.below_alloc3 w _ _ _
  have hl1 : (((w.alloc (.cells #[u] 28)).alloc (.cells #[v] 28)).alloc (.cells #[.slice none 0 0] 28)).heap[w.heap.size]? = some (.cells #[u] 28 (0, 0)) := by
    rw [Below.heap_alloc _ _ _ (by simp; try omega), Below.heap_alloc _ _ _ (by simp)]; exact heap_alloc_last w _
  have hl2 : (((w.alloc (.cells #[u] 28)).alloc (.cells #[v] 28)).alloc (.cells #[.slice none 0 0] 28)).heap[w.heap.size + 1]? = some (.cells #[v] 28 (0, 0)) := by
    rw [Below.heap_alloc _ _ _ (by simp; try omega)]; exact heap_alloc2_new _ _ _
  have hl3 : (((w.alloc (.cells #[u] 28)).alloc (.cells #[v] 28)).alloc (.cells #[.slice none 0 0] 28)).heap[w.heap.size + 1 + 1]? = some (.cells #[.slice none 0 0] 28 (0, 0)) := by
    have := heap_alloc_last ((w.alloc (.cells #[u] 28)).alloc (.cells #[v] 28)) (.cells #[.slice none 0 0] 28)
    simpa using this
  have L3 := Lib.hid hl3
  have cu : (((w.alloc (.cells #[u] 28)).alloc (.cells #[v] 28)).alloc (.cells #[.slice none 0 0] 28)).cell? ⟨w.heap.size, 0, none⟩ = some u := cell_of_one hl1
  have cv : (((w.alloc (.cells #[u] 28)).alloc (.cells #[v] 28)).alloc (.cells #[.slice none 0 0] 28)).cell? ⟨w.heap.size + 1, 0, none⟩ = some v := cell_of_one hl2
  cases hok : likeB ss tt with
  | false =>
    have C := Lib.hid (matricesOf_no u v ss tt _ hN hz (hu.below hb0) hN2 hz2 (hv.below hb0) (he.below hb0) hok)
    unfold NoMats at C
    clear hl1 hl2 hl3 hu hv hb0 he hok hno
    go_enter Tryd.func30, Tryd.ntmps30
    go_wp2_with fail
    refine C.out.mono ?_
    rintro e w1 ⟨rfl, hb1⟩
    have B1 : Hid (Below w.heap.size w w1) := (Joins.below_alloc3 w _ _ _).trans (hb1.mono (by simp; omega))
    have P1 := Lib.hid ((hb1.block (w.heap.size + 1 + 1) (by simp)).trans L3.out)
    have hl1 : w.heap.size + 1 + 1 < w1.heap.size := (Array.getElem?_eq_some_iff.1 P1.out).1
    have Q1 := Lib.hid (((Below.heap_alloc (w1.alloc (.cells zeros 70)) (.cells zeros 70) _ (by simp; omega)).trans (Below.heap_alloc w1 (.cells zeros 70) _ hl1)).trans P1.out)
    have hfr : ((w1.alloc (.cells zeros 70)).alloc (.cells zeros 70)).frozen? ⟨w.heap.size + 1 + 1, 0, none⟩ = false := free_of_one Q1.out
    have hc2 : ((w1.alloc (.cells zeros 70)).alloc (.cells zeros 70)).cell? ⟨w.heap.size + 1 + 1, 0, none⟩ = some (.slice none 0 0) := cell_of_one Q1.out
    have HX := Lib.hid (And.intro (cell_of_one (one_setCell (u := .slice none 0 0) Q1.out)) ((B1.out.trans ((Joins.below_alloc2 w1 (.cells zeros 70) (.cells zeros 70)).mono B1.out.size)).setCell (p := ⟨w.heap.size + 1 + 1, 0, none⟩) (by show w.heap.size ≤ w.heap.size + 1 + 1; omega) (.slice none 0 0)))
    clear hb1 cu cv
    go_wp2_with (refine wpList_store_under w1 (.cells zeros 70) rfl 70 _ _ rfl zeros rfl rfl 70 zeros infoM rfl (mcells_one _ _ _) ?_; refine Hid.out ?_)
    refine Lib.hid ?_
    go_wp2_with (refine wpList_store_new2 w1 (.cells zeros 70) rfl 70 _ _ rfl zeros rfl rfl 70 zeros infoM rfl (mcells_one _ _ _) ?_; refine Hid.out ?_)
    refine Lib.hid ?_
    go_wp2
    all_goals refine bodyPost_ret (v := .tuple #[.agg #[.slice none 0 0], .bool false]) (by simp [results, Tryd.results30, go_sem, HX.out.1]) rfl ⟨_, _, _, rfl, World.ownsRow_nil _ _ _ _, HX.out.2⟩
  | true =>
    have hop : ¬ (0 ≤ op ∧ op ≤ 3) := by
      unfold inB at hno; rw [hok] at hno; simp at hno; omega
    have C := Lib.hid (matricesOf_yes u v ss tt _ hN hz (hu.below hb0) hN2 hz2 (hv.below hb0) (he.below hb0) hok)
    have s1 := matC_size ss
    have o1 := matC_one ss
    have s2 := matC_size tt
    have o2 := matC_one tt
    obtain ⟨M1, hM1⟩ : ∃ M, matC ss = M := ⟨_, rfl⟩
    obtain ⟨M2, hM2⟩ : ∃ M, matC tt = M := ⟨_, rfl⟩
    rw [hM1] at C s1 o1
    rw [hM2] at C s2 o2
    have HI1 : Hid ((Tryd.prog.info? 70).map (·.size) = some M1.size) := by show _ = _; rw [s1]; exact infoM
    have HI2 : Hid ((Tryd.prog.info? 70).map (·.size) = some M2.size) := by show _ = _; rw [s2]; exact infoM
    have HZ1 := Lib.hid (zeros_size.trans s1.symm)
    have HZ2 := Lib.hid (zeros_size.trans s2.symm)
    have HO1 := Lib.hid o1
    have HO2 := Lib.hid o2
    clear s1 s2 o1 o2 hM1 hM2
    clear hl1 hl2 hl3 hu hv hb0 he hok hno
    go_enter Tryd.func30, Tryd.ntmps30
    go_wp2_with fail
    refine C.out.mono ?_
    rintro e w1 ⟨rfl, hb1⟩
    have B1 : Hid (Below w.heap.size w w1) := (Joins.below_alloc3 w _ _ _).trans (hb1.mono (by simp; omega))
    have P1 := Lib.hid ((hb1.block (w.heap.size + 1 + 1) (by simp)).trans L3.out)
    have hl1 : w.heap.size + 1 + 1 < w1.heap.size := (Array.getElem?_eq_some_iff.1 P1.out).1
    have Q1 := Lib.hid (((Below.heap_alloc (w1.alloc (.cells M1 70)) (.cells M2 70) _ (by simp; omega)).trans (Below.heap_alloc w1 (.cells M1 70) _ hl1)).trans P1.out)
    have hfr : ((w1.alloc (.cells M1 70)).alloc (.cells M2 70)).frozen? ⟨w.heap.size + 1 + 1, 0, none⟩ = false := free_of_one Q1.out
    have hc2 : ((w1.alloc (.cells M1 70)).alloc (.cells M2 70)).cell? ⟨w.heap.size + 1 + 1, 0, none⟩ = some (.slice none 0 0) := cell_of_one Q1.out
    have HX := Lib.hid (And.intro (cell_of_one (one_setCell (u := .slice none 0 0) Q1.out)) ((B1.out.trans ((Joins.below_alloc2 w1 (.cells M1 70) (.cells M2 70)).mono B1.out.size)).setCell (p := ⟨w.heap.size + 1 + 1, 0, none⟩) (by show w.heap.size ≤ w.heap.size + 1 + 1; omega) (.slice none 0 0)))
    clear hb1 cu cv
    go_wp2_with (refine wpList_store_under w1 (.cells zeros 70) rfl 70 _ _ rfl M1 rfl rfl 70 zeros HI1.out HZ1.out HO1.out ?_; refine Hid.out ?_)
    refine Lib.hid ?_
    go_wp2_with (refine wpList_store_new2 w1 (.cells M1 70) rfl 70 _ _ rfl M2 rfl rfl 70 zeros HI2.out HZ2.out HO2.out ?_; refine Hid.out ?_)
    refine Lib.hid ?_
    go_wp2_with fail
    refine (exists_no op _ hop).mono ?_
    rintro e w' ⟨rfl, rfl⟩
    go_wp2
    all_goals refine bodyPost_ret (v := .tuple #[.agg #[.slice none 0 0], .bool false]) (by simp [results, Tryd.results30, go_sem, HX.out.1]) rfl ⟨_, _, _, rfl, World.ownsRow_nil _ _ _ _, HX.out.2⟩
end Go.Proofs.YtfdefbfakdndiaaDoor
