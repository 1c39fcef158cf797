/- Contracts of single functions, and plain lemmas, on which the exact laws of this seat rest; each holds under the conditions that it states. -/
import Derived.Test.YtaopdhncapoefaaAi
namespace Go.Proofs.Ytaopdhncapoefaa
set_option linter.unusedVariables false
set_option linter.unusedSimpArgs false
open Go.RowKit Go.Maps

set_option maxHeartbeats 2000000 in
set_option maxRecDepth 100000 in
theorem element_yes (b m N : Nat) (xs : List (Int × Int)) (w : World) (hs : SetS w b m N xs) (h1 : (elL (memB xs)).length = N) (h2 : 1 ≤ N) (h3 : N ≤ 50) :
    Calls Try.prog 25 #[.map (some b)] w (SaysElB (elL (memB xs)) true w) := by
  have hR := Lib.hid (heap_alloc_last w (.cells #[.slice none 0 0] 28))
  have HB0 := Lib.hid (Joins.below_alloc1 w (.cells #[.slice none 0 0] 28))
  have HS0 := Lib.hid (hs.below HB0.out)
  have C := Lib.hid (elementOf_Has b (memB xs) (w.alloc (.cells #[.slice none 0 0] 28)) (fun x W hb => hasS_any b m N xs _ _ W (HS0.out.below hb) (wfE (by have := x.2; omega) (by have := x.2; omega)) (wfE (by have := x.2; omega) (by have := x.2; omega))))
  obtain ⟨E, hE⟩ : ∃ E, elL (memB xs) = E := ⟨_, rfl⟩
  rw [hE] at C h1 ⊢
  clear hE hs
  subst h1
  have hs0 : (w.alloc (.cells #[.slice none 0 0] 28)).heap.size = w.heap.size + 1 := by simp
  go_enter Try.func25, Try.ntmps25
  go_wp2_with fail
  refine C.out.mono ?_
  rintro e w2 ⟨ao, n, cap, rfl, hown, hb⟩
  have HR2 := Lib.hid ((hb.block w.heap.size (by rw [hs0]; omega)).trans hR.out)
  have B2 := Lib.hid (HB0.out.trans (hb.mono (by rw [hs0]; omega)))
  have S2 := Lib.hid (HS0.out.below hb)
  have O2 := Lib.hid hown
  have hs2 := B2.out.size
  have hlr := (Array.getElem?_eq_some_iff.1 HR2.out).1
  obtain ⟨hn, _⟩ : n = E.length ∧ True := by
    rcases Joins.ownsRow_forms hown with ⟨h, h0⟩ | ⟨g, c', h⟩
    · cases h; exact ⟨h0.symm, trivial⟩
    · cases h; exact ⟨rfl, trivial⟩
  subst hn
  have S3 := Lib.hid (S2.out.below (Joins.below_alloc1 w2 (.cells #[.slice ao E.length cap] 28)))
  have hlen := fun ty => S3.out.len Try.underlying53 ty
  obtain ⟨N, hN⟩ : ∃ N, E.length = N := ⟨_, rfl⟩
  rw [hN] at hlen h2 h3 ⊢
  have kN : (1 : Int) ≤ (N : Int) := by omega
  have kN2 : (N : Int) ≤ 50 := by omega
  have d1 : decide ((N : Int) < 1) = false := decide_eq_false (by omega)
  have d2 : decide ((50 : Int) < (N : Int)) = false := decide_eq_false (by omega)
  have fR : w2.frozen? ⟨w.heap.size, 0, none⟩ = false := free_of_one HR2.out
  have cR : w2.cell? ⟨w.heap.size, 0, none⟩ = some (.slice none 0 0) := cell_of_one HR2.out
  have hss : (w2.setCell ⟨w.heap.size, 0, none⟩ (.slice ao N cap)).heap.size = w2.heap.size := by simp [World.setCell]
  have HR4 : Hid (((w2.setCell ⟨w.heap.size, 0, none⟩ (.slice ao N cap)).alloc (.cells #[.slice ao N cap] 28)).heap[w.heap.size]? = some (.cells #[.slice ao N cap] 28 (0, 0))) := by
    show _ = _
    rw [Below.heap_alloc _ _ _ (by rw [hss]; exact hlr)]
    exact one_setCell HR2.out
  have O3 : Hid (OwnS ((w2.setCell ⟨w.heap.size, 0, none⟩ (.slice ao N cap)).alloc (.cells #[.slice ao N cap] 28)) w.heap.size (.slice ao N cap) E) := by
    have := Joins.ownsRow_le O2.out (show w.heap.size ≤ (w.alloc (.cells #[.slice none 0 0] 28)).heap.size by rw [hs0]; omega)
    rw [hN] at this
    have h4 := World.ownsRow.alloc (own_set (u := .slice ao N cap) this HR2.out (by decide)) (.cells #[.slice ao N cap] 28)
    unfold OwnS
    rw [hN]
    exact h4
  have B3 := Lib.hid ((B2.out.setCell (p := ⟨w.heap.size, 0, none⟩) (Nat.le_refl _) (.slice ao N cap)).alloc (by rw [hss]; exact hs2) (.cells #[.slice ao N cap] 28))
  clear hown hb kN kN2 h2 h3 hN hss
  go_wp2
  exact bodyPost_ret (v := .tuple #[.agg #[.slice ao N cap], .bool true]) (by simp [results, Try.results25, go_sem, cell_of_one HR4.out]) rfl ⟨ao, N, cap, rfl, O3.out, B3.out⟩
end Go.Proofs.Ytaopdhncapoefaa

/- Contracts of single functions, and plain lemmas, on which the exact laws of this seat rest; each holds under the conditions that it states. -/
namespace Go.Proofs.Ytaopdhncapoefaa
set_option linter.unusedVariables false
set_option linter.unusedSimpArgs false
open Go.RowKit Go.Maps

set_option maxHeartbeats 2000000 in
set_option maxRecDepth 100000 in
theorem element_no (b m N : Nat) (xs : List (Int × Int)) (w : World) (hs : SetS w b m N xs) (h : ¬ ((elL (memB xs)).length = N ∧ 1 ≤ N ∧ N ≤ 50)) :
    Calls Try.prog 25 #[.map (some b)] w (SaysElB [] false w) := by
  have hR := Lib.hid (heap_alloc_last w (.cells #[.slice none 0 0] 28))
  have HB0 := Lib.hid (Joins.below_alloc1 w (.cells #[.slice none 0 0] 28))
  have HS0 := Lib.hid (hs.below HB0.out)
  have C := Lib.hid (elementOf_Has b (memB xs) (w.alloc (.cells #[.slice none 0 0] 28)) (fun x W hb => hasS_any b m N xs _ _ W (HS0.out.below hb) (wfE (by have := x.2; omega) (by have := x.2; omega)) (wfE (by have := x.2; omega) (by have := x.2; omega))))
  obtain ⟨E, hE⟩ : ∃ E, elL (memB xs) = E := ⟨_, rfl⟩
  rw [hE] at C h
  clear hE hs
  have hs0 : (w.alloc (.cells #[.slice none 0 0] 28)).heap.size = w.heap.size + 1 := by simp
  go_enter Try.func25, Try.ntmps25
  go_wp2_with fail
  refine C.out.mono ?_
  rintro e w2 ⟨ao, n, cap, rfl, hown, hb⟩
  have HR2 := Lib.hid ((hb.block w.heap.size (by rw [hs0]; omega)).trans hR.out)
  have B2 := Lib.hid (HB0.out.trans (hb.mono (by rw [hs0]; omega)))
  have S2 := Lib.hid (HS0.out.below hb)
  have O2 := Lib.hid hown
  have hs2 := B2.out.size
  have hlr := (Array.getElem?_eq_some_iff.1 HR2.out).1
  obtain ⟨hn, _⟩ : n = E.length ∧ True := by
    rcases Joins.ownsRow_forms hown with ⟨h, h0⟩ | ⟨g, c', h⟩
    · cases h; exact ⟨h0.symm, trivial⟩
    · cases h; exact ⟨rfl, trivial⟩
  subst hn
  have S3 := Lib.hid (S2.out.below (Joins.below_alloc1 w2 (.cells #[.slice ao E.length cap] 28)))
  have hlen := fun ty => S3.out.len Try.underlying53 ty
  have fR : w2.frozen? ⟨w.heap.size, 0, none⟩ = false := free_of_one HR2.out
  have cR : w2.cell? ⟨w.heap.size, 0, none⟩ = some (.slice none 0 0) := cell_of_one HR2.out
  have hss : (w2.setCell ⟨w.heap.size, 0, none⟩ (.slice none 0 0)).heap.size = w2.heap.size := by simp [World.setCell]
  have HR4 : Hid (((w2.setCell ⟨w.heap.size, 0, none⟩ (.slice none 0 0)).alloc (.cells #[.slice ao E.length cap] 28)).heap[w.heap.size]? = some (.cells #[.slice none 0 0] 28 (0, 0))) := by
    show _ = _
    rw [Below.heap_alloc _ _ _ (by rw [hss]; exact hlr)]; exact one_setCell HR2.out
  have B3 := Lib.hid ((B2.out.setCell (p := ⟨w.heap.size, 0, none⟩) (Nat.le_refl _) (.slice none 0 0)).alloc (by rw [hss]; exact hs2) (.cells #[.slice ao E.length cap] 28))
  clear hss
  clear hown hb
  obtain ⟨L, hL⟩ : ∃ L, E.length = L := ⟨_, rfl⟩
  rw [hL] at hlen HR4 B3 h ⊢
  clear hL
  by_cases h1 : L = N
  · subst h1
    by_cases h2 : 1 ≤ L
    · have h3 : ¬ L ≤ 50 := fun h3 => h ⟨rfl, h2, h3⟩
      have d1 : decide ((L : Int) < 1) = false := decide_eq_false (by omega)
      have d2 : decide ((50 : Int) < (L : Int)) = true := decide_eq_true (by omega)
      clear h h2 h3
      go_wp2
      exact bodyPost_ret (v := .tuple #[.agg #[.slice none 0 0], .bool false]) (by simp [results, Try.results25, go_sem, cell_of_one HR4.out]) rfl ⟨none, 0, 0, rfl, World.ownsRow_nil _ _ _ _, B3.out⟩
    · have d1 : decide ((L : Int) < 1) = true := decide_eq_true (by omega)
      clear h h2
      go_wp2
      exact bodyPost_ret (v := .tuple #[.agg #[.slice none 0 0], .bool false]) (by simp [results, Try.results25, go_sem, cell_of_one HR4.out]) rfl ⟨none, 0, 0, rfl, World.ownsRow_nil _ _ _ _, B3.out⟩
  · have d1 : ((L : Int) != (N : Int)) = true := bne_iff_ne.2 (by omega)
    clear h
    go_wp2
    exact bodyPost_ret (v := .tuple #[.agg #[.slice none 0 0], .bool false]) (by simp [results, Try.results25, go_sem, cell_of_one HR4.out]) rfl ⟨none, 0, 0, rfl, World.ownsRow_nil _ _ _ _, B3.out⟩
end Go.Proofs.Ytaopdhncapoefaa
