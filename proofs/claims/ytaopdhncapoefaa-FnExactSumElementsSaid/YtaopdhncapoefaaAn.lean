/- Contracts of single functions, and plain lemmas, on which the exact laws of this seat rest; each holds under the conditions that it states. -/
import Derived.Test.YtaopdhncapoefaaAl
import Derived.Test.YtaopdhncapoefaaAm
import Derived.Test.YtaopdhncapoefaaAc
namespace Go.Proofs.Ytaopdhncapoefaa
set_option linter.unusedVariables false
set_option linter.unusedSimpArgs false
open Go.RowKit

theorem elB_long {xs : List (Int × Int)} (h : ¬ xs.length ≤ 50) : elB xs = false := by unfold elB; rw [decide_eq_false h, Bool.and_false, Bool.and_false]
theorem validE_yes {xs : List (Int × Int)} (h : (elL (memB xs)).length = dC xs xs.length ∧ 1 ≤ dC xs xs.length ∧ dC xs xs.length ≤ 50) : elB xs = decide (elL (memB xs) = xs) := by
  rw [← valid_eq, decide_eq_true h.1, decide_eq_true h.2.1, decide_eq_true h.2.2]; simp
theorem validE_no {xs : List (Int × Int)} (h : ¬ ((elL (memB xs)).length = dC xs xs.length ∧ 1 ≤ dC xs xs.length ∧ dC xs xs.length ≤ 50)) : elB xs = false := by
  rw [← valid_eq]
  by_cases h1 : (elL (memB xs)).length = dC xs xs.length
  · by_cases h2 : 1 ≤ dC xs xs.length
    · rw [decide_eq_false (fun h3 => h ⟨h1, h2, h3⟩)]; simp
    · rw [decide_eq_false h2]; simp
  · rw [decide_eq_false h1]; simp

set_option maxHeartbeats 2000000 in
set_option maxRecDepth 100000 in
theorem impl_ValidElement (v : Value) (xs : List (Int × Int)) (w : World) (hN : xs.length ≤ 1048576) (hwf : ∀ p ∈ xs, (Lit.int .i64 p.1).wf = true ∧ (Lit.int .i64 p.2).wf = true) (hv : SlS w v xs) :
    Calls Try.prog 23 #[.agg #[v]] w (SaysB (elB xs) w) := by
  obtain ⟨ao, cap, rfl, _⟩ := sl_form hv
  have hA := Lib.hid (heap_alloc_last w (.cells #[.slice ao xs.length cap] 28))
  have HB0 := Lib.hid (Joins.below_alloc1 w (.cells #[.slice ao xs.length cap] 28))
  by_cases h50 : xs.length ≤ 50
  · have hs0 : (w.alloc (.cells #[.slice ao xs.length cap] 28)).heap.size = w.heap.size + 1 := by simp
    have HV := Lib.hid (hv.below HB0.out)
    have CO := Lib.hid (offsetsOf_any _ xs (w.alloc (.cells #[.slice ao xs.length cap] 28)) hN hwf HV.out)
    have k50 : decide ((50 : Int) < (xs.length : Int)) = false := decide_eq_false (by omega)
    by_cases hc : (elL (memB xs)).length = dC xs xs.length ∧ 1 ≤ dC xs xs.length ∧ dC xs xs.length ≤ 50
    · have HR := Lib.hid (validE_yes hc)
      have CE := Lib.hid (fun b m W (hs : SetS W b m (dC xs xs.length) xs) => element_yes b m _ xs W hs hc.1 hc.2.1 hc.2.2)
      have CQ := Lib.hid (fun u z W (hu : SlS W u (elL (memB xs))) (hz : SlS W z xs) => equalS_any u z _ xs W (by have := elL_len (memB xs); omega) hN hu hz)
      obtain ⟨E, hE⟩ : ∃ E, elL (memB xs) = E := ⟨_, rfl⟩
      rw [hE] at HR CE CQ
      obtain ⟨r, hr⟩ : ∃ r, decide (E = xs) = r := ⟨_, rfl⟩
      rw [hr] at HR CQ
      clear hv hwf hc hE hr
      go_enter Try.func23, Try.ntmps23
      go_wp2_with fail
      refine CO.out.mono ?_
      rintro e w2 ⟨b, rfl, hset, hb2⟩
      have B2 := Lib.hid (HB0.out.trans (hb2.mono (by rw [hs0]; omega)))
      have V2 := Lib.hid (HV.out.below hb2)
      have A2 := Lib.hid ((hb2.block w.heap.size (by rw [hs0]; omega)).trans hA.out)
      have HSet := Lib.hid hset
      clear hset hb2
      go_wp2_with fail
      refine (CE.out _ _ _ HSet.out).mono ?_
      rintro e w3 ⟨ao3, n3, cap3, rfl, hown, hb3⟩
      have B3 := Lib.hid (B2.out.trans (hb3.mono B2.out.size))
      have V3 := Lib.hid (V2.out.below hb3)
      have A3 := Lib.hid ((hb3.block w.heap.size (Array.getElem?_eq_some_iff.1 A2.out).1).trans A2.out)
      have S3 := Lib.hid (OwnS.sl hown)
      have c0 := cell_of_one A3.out
      have hl3 := (Array.getElem?_eq_some_iff.1 A3.out).1
      have hs3 := B3.out.size
      have hb4 := Joins.below_alloc1 w3 (.cells #[.slice ao3 n3 cap3] 28)
      have S4 := Lib.hid (S3.out.below hb4)
      have V4 := Lib.hid (V3.out.below hb4)
      have B4 := Lib.hid (B3.out.alloc hs3 (.cells #[.slice ao3 n3 cap3] 28))
      clear hown hb3 hb4
      go_wp2_with fail
      refine (CQ.out _ _ _ S4.out V4.out).mono ?_
      rintro e w5 ⟨rfl, hb5⟩
      have B5 := Lib.hid (B4.out.trans (hb5.mono (by simp; omega)))
      clear hb5
      go_wp2
      go_ret
      exact ⟨ret_bool HR.out.symm, B5.out⟩
    · have HR := Lib.hid (validE_no hc)
      have CE := Lib.hid (fun b m W (hs : SetS W b m (dC xs xs.length) xs) => element_no b m _ xs W hs hc)
      clear hv hwf hc
      go_enter Try.func23, Try.ntmps23
      go_wp2_with fail
      refine CO.out.mono ?_
      rintro e w2 ⟨b, rfl, hset, hb2⟩
      have B2 := Lib.hid (HB0.out.trans (hb2.mono (by rw [hs0]; omega)))
      have HSet := Lib.hid hset
      clear hset hb2
      go_wp2_with fail
      refine (CE.out _ _ _ HSet.out).mono ?_
      rintro e w3 ⟨ao3, n3, cap3, rfl, hown, hb3⟩
      have B3 := Lib.hid (B2.out.trans (hb3.mono B2.out.size))
      have B4 := Lib.hid (B3.out.alloc B3.out.size (.cells #[.slice ao3 n3 cap3] 28))
      clear hown hb3
      go_wp2
      go_ret
      exact ⟨ret_bool HR.out.symm, B4.out⟩
  · have HR := Lib.hid (elB_long h50)
    have k50 : (50 : Int) < (xs.length : Int) := by omega
    clear hv hwf
    go_enter Try.func23, Try.ntmps23
    go_wp2
    go_ret
    exact ⟨ret_bool HR.out.symm, HB0.out⟩

end Go.Proofs.Ytaopdhncapoefaa
