/- Contracts of single functions, and plain lemmas, on which the exact laws of this seat rest; each holds under the conditions that it states. -/
import Derived.Test.YtiamjdbfoibnnaaDoorYe
namespace Go.Proofs.YtiamjdbfoibnnaaDoor
set_option linter.unusedVariables false
set_option linter.unusedSimpArgs false
open Go.RowKit

theorem rl_len (s : ByteArray) : (rlN s).length ≤ 300 := by
  unfold rlN
  split
  · simp
  · split
    · rename_i h
      unfold okL at h
      rw [Bool.and_eq_true, decide_eq_true_eq] at h
      unfold vals
      rw [List.length_map]; exact h.2
    · simp

set_option maxHeartbeats 1000000 in
theorem law_ReadList (s : ByteArray) (w : World) (h0 : s.size ≤ maxLen) (hT : ∀ W, Below w.heap.size w W → Lib.TabIs Tryd.prog W "internal/strconv.uint64pow10" .u64 Lib.pow10Tab) (hS : ErrVar w 2) (hR : ErrVar w 3) (hM : ∃ m, w.cell? ⟨4, 0, none⟩ = some (.int .i64 m)) :
    Calls Tryd.prog 6 #[.string s] w fun e w' => e = .returned (.bool true) ∧ Below w.heap.size w w' := by
  by_cases hs : s.size ≤ 1048576
  · have CS := Lib.hid (spec_ReadList s w hs)
    have CI : Hid (∀ W, Below w.heap.size w W → Calls Tryd.prog 16 #[.string s] W (SaysL (rlN s) (rlB s) W)) := fun W hb => impl_ReadList s W hs (fun W2 h2 => hT W2 (hb.trans (h2.mono hb.size))) (hS.below hb) (hR.below hb) (by
      obtain ⟨m, hm⟩ := hM
      exact ⟨m, kept_cell hb hm⟩)
    have hlen := rl_len s
    unfold SaysL at CS CI
    obtain ⟨ns, hns⟩ : ∃ l, rlN s = l := ⟨_, rfl⟩
    obtain ⟨ok, hok⟩ : ∃ b, rlB s = b := ⟨_, rfl⟩
    rw [hns, hok] at CS CI
    rw [hns] at hlen
    have CE : Hid (∀ u u2 W, SlI W u ns → SlI W u2 ns → Calls Tryd.prog 12 #[u, u2] W (fun e w' => e = .returned (.bool true) ∧ Below W.heap.size W w')) := fun u u2 W h1 h2 => eqInt64S_self u u2 ns W (by unfold maxLen; omega) h1 h2
    have CM : Hid (∀ base v W, OwnI W base v ns → Calls Tryd.prog 17 #[v, .int .i64 1] W (fun e w' => e = .returned (.int .i64 ((1 + ns.length : Nat) : Int)) ∧ OwnI w' base v (marks 1 ns.length) ∧ Below base W w')) := fun base v W h => markInt64S_any base v ns 1 W (by omega) (by omega) h
    have CH : Hid (∀ v W, SlI W v (marks 1 ns.length) → Calls Tryd.prog 18 #[v, .int .i64 1] W (fun e w' => e = .returned (.int .i64 ((1 + ns.length : Nat) : Int)) ∧ Below W.heap.size W w')) := fun v W h => heldInt64S_any v ns.length 1 W (by omega) (by omega) h
    obtain ⟨q, hq⟩ : ∃ q : Int, ((1 + ns.length : Nat) : Int) = q := ⟨_, rfl⟩
    rw [hq] at CM CH
    have hq0 : ¬ q < 0 := by omega
    have hqq : (q != q) = false := by simp
    clear hT hS hR hM hns hok hlen hq
    go_enter Tryd.func6, Tryd.ntmps6
    go_wp2_with fail
    refine CS.out.mono ?_
    rintro e w1 ⟨v0, rfl, ho1, hb1⟩
    have B1 := Lib.hid hb1
    have S1 := Lib.hid ho1.sl
    clear hb1 ho1
    go_wp2_with fail
    refine (CI.out _ B1.out).mono ?_
    rintro e w2 ⟨g0, rfl, ho2, hb2⟩
    have B12 := Lib.hid hb2
    have S2 := Lib.hid (S1.out.below hb2)
    have O2 := Lib.hid ho2
    have B2 := Lib.hid (B1.out.trans (hb2.mono B1.out.size))
    clear hb2 ho2
    go_wp2_with fail
    refine (CE.out _ _ _ O2.out.sl S2.out).mono ?_
    rintro e w3 ⟨rfl, hb3⟩
    have B13 := Lib.hid (B12.out.trans (hb3.mono B12.out.size))
    have O3 := Lib.hid (O2.out.below hb3)
    have B3 := Lib.hid (B2.out.trans (hb3.mono B2.out.size))
    clear hb3
    go_wp2_with fail
    refine (CM.out _ _ _ O3.out).mono ?_
    rintro e w4 ⟨rfl, ho4, hb4⟩
    have S4 := Lib.hid (S1.out.below (B13.out.trans hb4))
    have M4 := Lib.hid ho4.sl
    have B4 := Lib.hid (B3.out.trans (hb4.mono B1.out.size))
    clear hb4 ho4
    go_wp2_with fail
    refine (CH.out _ _ M4.out).mono ?_
    rintro e w5 ⟨rfl, hb5⟩
    have S5 := Lib.hid (S4.out.below hb5)
    have M5 := Lib.hid (M4.out.below hb5)
    have B5 := Lib.hid (B4.out.trans (hb5.mono B4.out.size))
    clear hb5
    go_wp2_with fail
    refine (CI.out _ B5.out).mono ?_
    rintro e w6 ⟨h0', rfl, ho6, hb6⟩
    have S6 := Lib.hid (S5.out.below hb6)
    have M6 := Lib.hid (M5.out.below hb6)
    have H6 := Lib.hid ho6.sl
    have B6 := Lib.hid (B5.out.trans (hb6.mono B5.out.size))
    clear hb6 ho6
    go_wp2_with fail
    refine (CE.out _ _ _ H6.out S6.out).mono ?_
    rintro e w7 ⟨rfl, hb7⟩
    have M7 := Lib.hid (M6.out.below hb7)
    have B7 := Lib.hid (B6.out.trans (hb7.mono B6.out.size))
    clear hb7
    go_wp2_with fail
    refine (CH.out _ _ M7.out).mono ?_
    rintro e w8 ⟨rfl, hb8⟩
    have B8 := Lib.hid (B7.out.trans (hb8.mono B7.out.size))
    clear hb8
    go_wp2_with fail
    go_ret
    exact ⟨rfl, B8.out⟩
  · clear hT hS hR hM
    go_enter Tryd.func6, Tryd.ntmps6
    go_wp2_with fail
    go_ret
    exact ⟨rfl, Below.refl _ _⟩
end Go.Proofs.YtiamjdbfoibnnaaDoor
