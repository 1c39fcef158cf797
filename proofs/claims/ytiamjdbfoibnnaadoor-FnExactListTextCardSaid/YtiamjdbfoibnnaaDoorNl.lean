/- Contracts of single functions, and plain lemmas, on which the exact laws of this seat rest; each holds under the conditions that it states. -/
import Derived.Test.YtiamjdbfoibnnaaDoorNc
namespace Go.Proofs.YtiamjdbfoibnnaaDoor
set_option linter.unusedVariables false
set_option linter.unusedSimpArgs false
open Go.RowKit

set_option maxHeartbeats 1000000 in
theorem law_ListText (v : Value) (ns : List Int) (w : World) (hN : ns.length ≤ maxLen) (hv : SlI w v ns) (hT : ∀ W, Below w.heap.size w W → Lib.TabIs Tryd.prog W "internal/strconv.uint64pow10" .u64 Lib.pow10Tab) :
    Calls Tryd.prog 4 #[v] w fun e w' => e = .returned (.bool true) ∧ Below w.heap.size w w' := by
  obtain ⟨ao, cap, hform⟩ := hv.form
  by_cases hs : ns.length ≤ 1048576
  · have HSL : Hid (∀ W, Below w.heap.size w W → SlI W v ns) := fun W hb => hv.below hb
    have CT : Hid (∀ W, Below w.heap.size w W → Calls Tryd.prog 10 #[v] W (TookI ns W)) := fun W hb => toInt64S_sl v ns W hs (HSL.out W hb)
    have CS : Hid (∀ u W, SlI W u ns → Calls Tryd.prog 9 #[u] W (SaysTB (lt1 ns) (fewB ns) W)) := fun u W hu => spec_ListText u ns W hN hu
    have CI : Hid (∀ u W, SlI W u ns → Below w.heap.size w W → Calls Tryd.prog 11 #[u] W (SaysTB (lt1 ns) (fewB ns) W)) := fun u W hu hb => impl_ListText u ns W hN hu (fun W2 h2 => hT W2 (hb.trans (h2.mono hb.size)))
    have CE : Hid (∀ u u2 W, SlI W u ns → SlI W u2 ns → Calls Tryd.prog 12 #[u, u2] W (fun e w' => e = .returned (.bool true) ∧ Below W.heap.size W w')) := fun u u2 W h1 h2 => eqInt64S_self u u2 ns W hN h1 h2
    unfold TookI at CT
    unfold SaysTB at CS CI
    obtain ⟨t, ht⟩ : ∃ t, lt1 ns = t := ⟨_, rfl⟩
    obtain ⟨ok, hok⟩ : ∃ t, fewB ns = t := ⟨_, rfl⟩
    rw [ht, hok] at CS CI
    have hlen : (ns.length : Int) ≤ 1048576 := by omega
    subst hform
    clear hv hT ht hok hN
    go_enter Tryd.func4, Tryd.ntmps4
    go_wp2_with fail
    refine (CT.out _ (Below.refl _ _)).mono ?_
    rintro e w1 ⟨u1, rfl, hu1, hb1⟩
    have B1 := Lib.hid hb1
    have U1 := Lib.hid hu1
    clear hb1 hu1
    go_wp2_with fail
    refine (CS.out _ _ U1.out).mono ?_
    rintro e w2 ⟨rfl, hb2⟩
    have B2 := Lib.hid (B1.out.trans (hb2.mono B1.out.size))
    clear hb2
    go_wp2_with fail
    refine (CT.out _ B2.out).mono ?_
    rintro e w3 ⟨u3, rfl, hu3, hb3⟩
    have B3 := Lib.hid (B2.out.trans (hb3.mono B2.out.size))
    have U3 := Lib.hid hu3
    clear hb3 hu3
    go_wp2_with fail
    refine (CI.out _ _ U3.out B3.out).mono ?_
    rintro e w4 ⟨rfl, hb4⟩
    have U4 := Lib.hid (U3.out.below hb4)
    have B4 := Lib.hid (B3.out.trans (hb4.mono B3.out.size))
    clear hb4
    go_wp2_with fail
    refine (CT.out _ B4.out).mono ?_
    rintro e w5 ⟨u5, rfl, hu5, hb5⟩
    have U5 := Lib.hid (U4.out.below hb5)
    have B5 := Lib.hid (B4.out.trans (hb5.mono B4.out.size))
    have V5 := Lib.hid hu5
    clear hb5 hu5
    go_wp2_with fail
    refine (CE.out _ _ _ U5.out V5.out).mono ?_
    rintro e w6 ⟨rfl, hb6⟩
    have B6 := Lib.hid (B5.out.trans (hb6.mono B5.out.size))
    clear hb6
    go_wp2_with fail
    go_ret
    exact ⟨rfl, B6.out⟩
  · have hlen : ¬ (ns.length : Int) ≤ 1048576 := by omega
    have hlen2 : (1048576 : Int) < (ns.length : Int) := by omega
    unfold maxLen at hN
    subst hform
    clear hv hT
    go_enter Tryd.func4, Tryd.ntmps4
    go_wp2_with fail
    go_ret
    exact ⟨rfl, Below.refl _ _⟩
end Go.Proofs.YtiamjdbfoibnnaaDoor
