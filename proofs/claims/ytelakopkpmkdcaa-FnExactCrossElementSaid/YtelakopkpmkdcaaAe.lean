/- Contracts of single functions, and plain lemmas, on which the exact laws of this seat rest; each holds under the conditions that it states. -/
import Derived.Test.YtelakopkpmkdcaaAd
namespace Go.Proofs.Ytelakopkpmkdcaa
set_option linter.unusedVariables false
set_option linter.unusedSimpArgs false
open Go.RowKit

set_option maxHeartbeats 1000000 in
theorem impl_Cross_yes (size : Int) (w : World) (h : 0 ≤ size ∧ size ≤ 4) : Calls Try.prog 15 #[.int .i64 size] w (SaysElB (elL (crF size)) true w) := by
  have hq : Hid (((w.alloc (.cells #[.int .i64 size] 2)).alloc (.cells #[.slice none 0 0] 24)).cell? ⟨w.heap.size, 0, none⟩ = some (.int .i64 size)) := cell_kept (Joins.below_alloc1 _ _) (cell_of_one (heap_alloc_last w _))
  have hR0 := heap_alloc_last (w.alloc (.cells #[.int .i64 size] 2)) (.cells #[.slice none 0 0] 24)
  rw [World.size_alloc] at hR0
  have HB0 := Lib.hid (Joins.below_alloc2 w (.cells #[.int .i64 size] 2) (.cells #[.slice none 0 0] 24))
  have C := Lib.hid (elementOf_Cross w.heap.size (crF size) ((w.alloc (.cells #[.int .i64 size] 2)).alloc (.cells #[.slice none 0 0] 24)) (fun x W hb => cross1_any _ _ size _ W x.2.1 x.2.2 (cell_kept hb hq.out)))
  have HR0 := Lib.hid hR0
  clear hR0
  have h1 := h.1
  have h2 := h.2
  have hs0 : ((w.alloc (.cells #[.int .i64 size] 2)).alloc (.cells #[.slice none 0 0] 24)).heap.size = w.heap.size + 1 + 1 := by simp
  go_enter Try.func15, Try.ntmps15
  go_wp2_with fail
  refine C.out.mono ?_
  rintro e w2 ⟨ao, n, cap, rfl, hown, hb⟩
  have hp2 := (hb.block (w.heap.size + 1) (by rw [hs0]; omega)).trans HR0.out
  have hfr : w2.frozen? ⟨w.heap.size + 1, 0, none⟩ = false := free_of_one hp2
  have hc2 : w2.cell? ⟨w.heap.size + 1, 0, none⟩ = some (.slice none 0 0) := cell_of_one hp2
  have O2 := Lib.hid (own_set (u := .slice ao n cap) hown hp2 (by decide))
  have P2 := Lib.hid hp2
  have B2 := Lib.hid (HB0.out.trans (hb.mono (by rw [hs0]; omega)))
  clear hown hp2 hb
  go_wp2_with fail
  refine bodyPost_ret (v := .tuple #[.agg #[.slice ao n cap], .bool true]) (by simp [results, Try.results15, go_sem, cell_of_one (one_setCell P2.out)]) rfl ⟨_, _, _, rfl, Joins.ownsRow_le O2.out (by rw [hs0]; omega), B2.out.setCell (by simp) _⟩

set_option maxHeartbeats 1000000 in
theorem impl_Cross_no (size : Int) (w : World) (h : ¬ (0 ≤ size ∧ size ≤ 4)) : Calls Try.prog 15 #[.int .i64 size] w (SaysElB [] false w) := by
  have hR0 := heap_alloc_last (w.alloc (.cells #[.int .i64 size] 2)) (.cells #[.slice none 0 0] 24)
  rw [World.size_alloc] at hR0
  have HR0 := Lib.hid hR0
  have HB0 := Lib.hid (Joins.below_alloc2 w (.cells #[.int .i64 size] 2) (.cells #[.slice none 0 0] 24))
  clear hR0
  by_cases h1 : size < 0
  · clear h
    go_enter Try.func15, Try.ntmps15
    go_wp2_with fail
    refine bodyPost_ret (v := .tuple #[.agg #[.slice none 0 0], .bool false]) (by simp [results, Try.results15, go_sem, cell_of_one HR0.out]) rfl ⟨_, _, _, rfl, World.ownsRow_nil _ _ _ _, HB0.out⟩
  · have h2 : 4 < size := by omega
    clear h
    go_enter Try.func15, Try.ntmps15
    go_wp2_with fail
    refine bodyPost_ret (v := .tuple #[.agg #[.slice none 0 0], .bool false]) (by simp [results, Try.results15, go_sem, cell_of_one HR0.out]) rfl ⟨_, _, _, rfl, World.ownsRow_nil _ _ _ _, HB0.out⟩
set_option maxHeartbeats 2000000 in
set_option maxRecDepth 100000 in
theorem law_CrossElement (a : Int) (w : World) :
    Calls Try.prog 4 #[.int .i64 a] w fun e w' => e = .returned (.bool true) ∧ Below w.heap.size w w' := by
  obtain ⟨P, ok, hPl, hS, hI⟩ : ∃ (P : List (Int × Int)) (ok : Bool), P.length ≤ 81 ∧ (∀ W, Calls Try.prog 14 #[.int .i64 a] W (SaysElB P ok W)) ∧ (∀ W, Calls Try.prog 15 #[.int .i64 a] W (SaysElB P ok W)) := by
    by_cases h : 0 ≤ a ∧ a ≤ 4
    · obtain ⟨n, rfl⟩ := Int.eq_ofNat_of_zero_le h.1
      exact ⟨elL (crF n), true, elL_len _, fun W => spec_Cross_yes n W (by omega), fun W => impl_Cross_yes n W h⟩
    · exact ⟨[], false, by simp, fun W => spec_Cross_no a W h, fun W => impl_Cross_no a W h⟩
  have CS := Lib.hid hS
  have CI := Lib.hid hI
  obtain ⟨m, hm0, hM, hH⟩ : ∃ m : Int, 0 ≤ m ∧ (∀ v base W, OwnS W base v P → Calls Try.prog 12 #[.agg #[v], .int .i64 1] W (fun e w' => e = .returned (.int .i64 m) ∧ OwnS w' base v (marksS 1 P.length) ∧ W.grownBy w' v.ownBlock)) ∧ (∀ v W, SlS W v (marksS 1 P.length) → Calls Try.prog 13 #[.agg #[v], .int .i64 1] W (fun e w' => e = .returned (.int .i64 m) ∧ Below W.heap.size W w')) :=
    ⟨((1 + P.length * 2 : Nat) : Int), by omega, fun v base W h => markElement_any v P base 1 W (by omega) (by omega) h, fun v W h => heldElement_any v 1 P.length W (by omega) (by omega) h⟩
  have CM := Lib.hid hM
  have CH := Lib.hid hH
  have CE : Hid (∀ u v W, SlS W u P → SlS W v P → Calls Try.prog 11 #[.agg #[u], .agg #[v]] W (SaysB true W)) := fun u v W hu hv => eqElement_same u v P W (by omega) hu hv
  clear hS hI hM hH
  go_enter Try.func4, Try.ntmps4
  go_wp2_with fail
  refine (CS.out _).mono ?_
  rintro e w1 ⟨ao1, n1, cap1, rfl, h1, hb1⟩
  have O1 := Lib.hid h1
  have B1 := Lib.hid hb1
  clear h1 hb1
  go_wp2_with fail
  refine (CI.out _).mono ?_
  rintro e w2 ⟨ao2, n2, cap2, rfl, h2, hb2⟩
  have T2 := Lib.hid (TwoEls.mk' O1.out h2 hb2)
  have B2 : Hid (Below w.heap.size w (w2.alloc (.cells #[.slice ao2 n2 cap2] 24))) := ((B1.out.alloc B1.out.size _).trans (hb2.mono (by have := B1.out.size; simp; omega))).alloc (by have := B1.out.size; have := hb2.size; simp at this; omega) _
  have c1 := T2.out.v1
  have c2 := T2.out.v2
  have hlo : w.heap.size ≤ w1.heap.size + 1 := by have := B1.out.size; omega
  clear h2 hb2
  go_wp2_with fail
  refine (CE.out _ _ _ T2.out.o2.sl T2.out.o1.sl).mono ?_
  rintro e w3 ⟨rfl, hb3⟩
  have T3 := Lib.hid (T2.out.below hb3)
  have B3 := Lib.hid (B2.out.trans (hb3.mono B2.out.size))
  have d2 := T3.out.v2
  clear hb3 c1 c2
  go_wp2_with fail
  refine (CM.out _ _ _ T3.out.o2).mono ?_
  rintro e w4 ⟨rfl, ho4, hg4⟩
  have T4 := Lib.hid (T3.out.marked ho4 hg4)
  have B4 := Lib.hid (T3.out.grow hlo B3.out hg4)
  have f2 := T4.out.v2
  clear ho4 hg4 d2
  go_wp2_with fail
  refine (CH.out _ _ T4.out.o2.sl).mono ?_
  rintro e w5 ⟨rfl, hb5⟩
  have T5 := Lib.hid (T4.out.below hb5)
  have B5 := Lib.hid (B4.out.trans (hb5.mono B4.out.size))
  clear hb5 f2
  go_wp2_with fail
  refine (CI.out _).mono ?_
  rintro e w6 ⟨ao3, n3, cap3, rfl, h6, hb6⟩
  have T6 := Lib.hid ((T5.out.below hb6).below (Joins.below_alloc1 w6 (.cells #[.slice ao3 n3 cap3] 24)))
  have B6 : Hid (Below w.heap.size w (w6.alloc (.cells #[.slice ao3 n3 cap3] 24))) := (B5.out.trans (hb6.mono B5.out.size)).alloc (Nat.le_trans B5.out.size hb6.size) _
  have O6 := Lib.hid (OwnS.sl (h6.alloc (.cells #[.slice ao3 n3 cap3] 24)))
  have g1 := T6.out.v1
  have g3 : (w6.alloc (.cells #[.slice ao3 n3 cap3] 24)).cell? ⟨w6.heap.size, 0, none⟩ = some (.slice ao3 n3 cap3) := cell_of_one (heap_alloc_last w6 _)
  clear h6 hb6
  go_wp2_with fail
  refine (CE.out _ _ _ O6.out T6.out.o1.sl).mono ?_
  rintro e w7 ⟨rfl, hb7⟩
  have T7 := Lib.hid (T6.out.below hb7)
  have B7 := Lib.hid (B6.out.trans (hb7.mono B6.out.size))
  have k2 := T7.out.v2
  clear hb7 g1 g3
  go_wp2_with fail
  refine (CH.out _ _ T7.out.o2.sl).mono ?_
  rintro e w8 ⟨rfl, hb8⟩
  have B8 := Lib.hid (B7.out.trans (hb8.mono B7.out.size))
  clear hb8 k2
  go_wp2
  go_ret
  exact ⟨rfl, B8.out⟩
end Go.Proofs.Ytelakopkpmkdcaa
