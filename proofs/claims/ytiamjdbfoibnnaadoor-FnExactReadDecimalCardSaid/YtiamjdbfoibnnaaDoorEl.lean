/- Contracts of single functions, and plain lemmas, on which the exact laws of this seat rest; each holds under the conditions that it states. -/
import Derived.Test.YtiamjdbfoibnnaaDoorEc
namespace Go.Proofs.YtiamjdbfoibnnaaDoor
set_option linter.unusedVariables false
set_option linter.unusedSimpArgs false
open Go.RowKit

theorem law_ReadDecimal (s : ByteArray) (w : World) (h0 : s.size ≤ maxLen) (hT : ∀ W, Below w.heap.size w W → Lib.TabIs Tryd.prog W "internal/strconv.uint64pow10" .u64 Lib.pow10Tab) (hS : ErrVar w 2) (hR : ErrVar w 3) :
    Calls Tryd.prog 5 #[.string s] w fun e w' => e = .returned (.bool true) ∧ Below w.heap.size w w' := by
  by_cases hs : s.size ≤ 1048576
  · have CS := Lib.hid (spec_ReadDecimal s w hs)
    have CI : Hid (∀ W, Below w.heap.size w W → Calls Tryd.prog 14 #[.string s] W (SaysRead s.data.toList W)) := fun W hb => impl_ReadDecimal s W hs (fun W2 h2 => hT W2 (hb.trans (h2.mono hb.size))) (hS.below hb) (hR.below hb)
    unfold SaysRead at CS CI
    clear hT hS hR
    go_enter Tryd.func5, Tryd.ntmps5
    go_wp2_with fail
    refine CS.out.mono ?_
    rintro e w1 ⟨n, ok, rfl, hr, hb1⟩
    have B1 := Lib.hid hb1
    have R1 := Lib.hid hr
    clear hb1 hr
    go_wp2_with fail
    refine (CI.out _ B1.out).mono ?_
    rintro e w2 ⟨n2, ok2, rfl, hr2, hb2⟩
    have B2 := Lib.hid (B1.out.trans (hb2.mono B1.out.size))
    obtain ⟨rfl, rfl⟩ := R1.out.unique hr2
    clear hb2 hr2 R1
    go_wp2_with fail
    go_ret
    exact ⟨rfl, B2.out⟩
  · clear hT hS hR
    go_enter Tryd.func5, Tryd.ntmps5
    go_wp2_with fail
    go_ret
    exact ⟨rfl, Below.refl _ _⟩
end Go.Proofs.YtiamjdbfoibnnaaDoor
