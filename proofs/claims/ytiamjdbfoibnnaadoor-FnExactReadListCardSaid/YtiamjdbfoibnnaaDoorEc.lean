/- Contracts of single functions, and plain lemmas, on which the exact laws of this seat rest; each holds under the conditions that it states. -/
import Derived.Test.YtiamjdbfoibnnaaDoorEb
import Derived.Lib.AtoiErrMem
namespace Go.Proofs.YtiamjdbfoibnnaaDoor
set_option linter.unusedVariables false
set_option linter.unusedSimpArgs false
open Go.RowKit

theorem spec_ReadDecimal (s : ByteArray) (w : World) (hs : s.size ≤ 1048576) : Calls Tryd.prog 13 #[.string s] w (SaysRead s.data.toList w) := by
  have C := Lib.hid (l01Value_any s w hs)
  clear hs
  unfold SaysRead at C
  go_enter Tryd.func13, Tryd.ntmps13
  go_wp2_with fail
  refine C.out.mono ?_
  rintro e w' ⟨n, ok, rfl, hr, hb⟩
  have HB := Lib.hid hb
  have HR := Lib.hid hr
  clear hb hr
  go_wp2_with fail
  go_ret2
  exact ⟨n, ok, rfl, HR.out, HB.out⟩

/-- an interface that holds something, in a variable's cell -/
def ErrVar (w : World) (g : Nat) : Prop := ∃ ev : Value, w.cell? ⟨g, 0, none⟩ = some ev ∧ (ev = .nilIface ∨ ∃ te pe, ev = .iface te pe)
theorem ErrVar.below {w w' : World} {g : Nat} (h : ErrVar w g) (hb : Below w.heap.size w w') : ErrVar w' g := by
  obtain ⟨ev, h1, h2⟩ := h
  exact ⟨ev, kept_cell hb h1, h2⟩

set_option maxHeartbeats 1000000 in
theorem impl_ReadDecimal (s : ByteArray) (w : World) (hs : s.size ≤ 1048576) (hT : ∀ W, Below w.heap.size w W → Lib.TabIs Tryd.prog W "internal/strconv.uint64pow10" .u64 Lib.pow10Tab) (hS : ErrVar w 2) (hR : ErrVar w 3) :
    Calls Tryd.prog 14 #[.string s] w (SaysRead s.data.toList w) := by
  obtain ⟨ev, he, he2⟩ := hS
  obtain ⟨er, hr, hr2⟩ := hR
  cases hp : Lib.parseIntB 64 s.data.toList with
  | ok v =>
    have hv := Lib.parseIntB_bounds hp
    have q : (2 : Nat) ^ (64 - 1) = 9223372036854775808 := by decide
    rw [q] at hv
    have C1 : Hid (Calls Tryd.prog 28 #[.string s, .int .i64 10, .int .i64 64] w fun e w' => e = .returned (.tuple #[.int .i64 v, .nilIface]) ∧ Below w.heap.size w w') := (Tryd.strconv_ParseInt_10_at64_ok s (by omega) v hp w).mono fun e w' ⟨h1, h2⟩ => ⟨h1, by
      rcases h2 with rfl | ⟨t, rfl⟩
      · exact Below.refl _ _
      · exact Lib.bytesWorld_below _ _ _⟩
    have HOnly : Hid (∀ m : Int, -1000000000 ≤ m → m ≤ 1000000000 → Lib.itoa m = s.data.toList → m = v) := fun m h1 h2 e => by
      have := parse_itoa h1 h2
      rw [e, hp] at this
      injection this with this
      exact this.symm
    have tail : Hid (ReadS s.data.toList (if inD v (-1000000000) 1000000000 && decide (Lib.itoa v = s.data.toList) then v else 0) (inD v (-1000000000) 1000000000 && decide (Lib.itoa v = s.data.toList))) := by
      show ReadS _ _ _
      cases h1 : inD v (-1000000000) 1000000000 with
      | false => exact read_only HOnly.out (Or.inl h1)
      | true =>
        by_cases h2 : Lib.itoa v = s.data.toList
        · rw [decide_eq_true h2]; exact read_ok h1 h2
        · rw [decide_eq_false h2]; exact read_only HOnly.out (Or.inr h2)
    have D : Hid (∀ W, Below w.heap.size w W → Calls Tryd.prog 8 #[.int .i64 v] W (SaysDec v W)) := fun W hb => impl_Decimal v W (by omega) (by omega) (hT W hb)
    obtain ⟨S, hS⟩ : ∃ S : ByteArray, (⟨(Lib.itoa v).toArray⟩ : ByteArray) = S := ⟨_, rfl⟩
    have hdec : decide (Lib.itoa v = s.data.toList) = decide (S = s) := by
      rw [decide_eq_decide, ← hS]
      constructor
      · intro e; cases s; simp_all
      · intro e; rw [← e]
    unfold SaysDec at D
    rw [hS] at D
    rw [hdec] at tail
    clear HOnly hdec hS hT he he2 hr hr2 q hv hs hp
    go_enter Tryd.func14, Tryd.ntmps14
    go_wp2_with fail
    refine C1.out.mono ?_
    rintro e w1 ⟨rfl, hb1⟩
    have B1 := Lib.hid hb1
    clear hb1 C1
    go_wp2_with fail
    refine (isValue_d _ _).mono ?_
    rintro e w' ⟨rfl, rfl⟩
    cases hin : inD v (-1000000000) 1000000000 with
    | false =>
      rw [hin, Bool.false_and] at tail
      clear hin
      go_wp2_with fail
      go_ret2
      exact ⟨0, false, rfl, tail.out, B1.out⟩
    | true =>
      rw [hin, Bool.true_and] at tail
      clear hin
      go_wp2_with fail
      refine (D.out _ B1.out).mono ?_
      rintro e w2 ⟨rfl, hb⟩
      have HB := Lib.hid (B1.out.trans (hb.mono B1.out.size))
      clear hb
      by_cases he : S = s
      · subst he
        rw [decide_eq_true rfl] at tail
        go_wp2_with fail
        go_ret2
        exact ⟨_, true, rfl, tail.out, HB.out⟩
      · have he2 := text_ne he
        rw [decide_eq_false he] at tail
        clear he
        go_wp2_with fail
        go_ret2
        exact ⟨0, false, rfl, tail.out, HB.out⟩
  | range =>
    have HNo := Lib.hid (read_no (l := s.data.toList) fun m h1 h2 e => by
      have := parse_itoa h1 h2
      rw [e, hp] at this
      cases this)
    have C1 : Hid (Calls Tryd.prog 28 #[.string s, .int .i64 10, .int .i64 64] w fun e w' => ∃ x N, e = .returned (.tuple #[.int .i64 x, .iface 74 (.pointer (some ⟨N, 0, none⟩))]) ∧ Below w.heap.size w w') := (Tryd.strconv_ParseInt_10_at64_range s (by omega) hp er w hr hr2).mono fun e w' ⟨N, h1, _, _, h2⟩ => ⟨_, N, h1, h2⟩
    clear hT he he2 hr hr2 hs hp
    go_enter Tryd.func14, Tryd.ntmps14
    go_wp2_with fail
    refine C1.out.mono ?_
    rintro e w1 ⟨x, N, rfl, hb1⟩
    have B1 := Lib.hid hb1
    clear hb1 C1
    go_wp2_with fail
    go_ret2
    exact ⟨0, false, rfl, HNo.out, B1.out⟩
  | _ =>
    have HNo := Lib.hid (read_no (l := s.data.toList) fun m h1 h2 e => by
      have := parse_itoa h1 h2
      rw [e, hp] at this
      cases this)
    have C1 : Hid (Calls Tryd.prog 28 #[.string s, .int .i64 10, .int .i64 64] w fun e w' => ∃ x N, e = .returned (.tuple #[.int .i64 x, .iface 74 (.pointer (some ⟨N, 0, none⟩))]) ∧ Below w.heap.size w w') := (Any.strconv_ParseInt_10_at64_syntax Tryd.laysC174 s (by omega) hp ev w he he2).mono fun e w' ⟨N, h1, _, _, h2⟩ => ⟨_, N, h1, h2⟩
    clear hT he he2 hr hr2 hs hp
    go_enter Tryd.func14, Tryd.ntmps14
    go_wp2_with fail
    refine C1.out.mono ?_
    rintro e w1 ⟨x, N, rfl, hb1⟩
    have B1 := Lib.hid hb1
    clear hb1 C1
    go_wp2_with fail
    go_ret2
    exact ⟨0, false, rfl, HNo.out, B1.out⟩
end Go.Proofs.YtiamjdbfoibnnaaDoor
