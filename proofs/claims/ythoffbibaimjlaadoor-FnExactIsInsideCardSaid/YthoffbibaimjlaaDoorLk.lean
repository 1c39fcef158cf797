/- Contracts of single functions, and plain lemmas, on which the exact laws of this seat rest; each holds under the conditions that it states. -/
import Derived.Test.YthoffbibaimjlaaDoorSp
import Derived.Test.YthoffbibaimjlaaDoorMq
namespace Go.Proofs.YthoffbibaimjlaaDoor
set_option linter.unusedVariables false
open Go.RowKit

theorem ret_b {a b : Bool} (h : a = b) : Ending.returned (.bool a) = .returned (.bool b) := by rw [h]

set_option maxHeartbeats 1600000 in
set_option maxRecDepth 100000 in
theorem l01Like_any (pb qb : Nat) (u v : Value) (ss tt : List ByteArray) (w : World) (hp : w.cell? ⟨pb, 0, none⟩ = some u) (hu : Sl w u ss) (hN : ss.length ≤ maxLen) (hz : ∀ s ∈ ss, s.size ≤ maxLen)
    (hq : w.cell? ⟨qb, 0, none⟩ = some v) (hv : Sl w v tt) (hN2 : tt.length ≤ maxLen) (hz2 : ∀ s ∈ tt, s.size ≤ maxLen) :
    Calls Tryd.prog 17 #[.pointer (some ⟨pb, 0, none⟩), .pointer (some ⟨qb, 0, none⟩)] w (SaysB (likeB ss tt) w) := by
  have C1 := Lib.hid (l01Is_any pb 0 u ss w hp hu hN hz)
  have C2 : Hid (∀ W, Below w.heap.size w W → Calls Tryd.prog 23 #[.pointer (some ⟨qb, 0, none⟩)] W (SaysB (validB tt) W)) := fun W hb => l01Is_any qb 0 v tt W (cell_kept hb hq) (hv.below hb) hN2 hz2
  cases h1 : validB ss with
  | false =>
    have e : Hid (likeB ss tt = false) := by show likeB ss tt = _; unfold likeB; rw [h1]; rfl
    rw [h1] at C1
    clear h1 hp hu hq hv
    go_enter Tryd.func17, Tryd.ntmps17
    go_wp2_with fail
    refine C1.out.mono ?_
    rintro e w1 ⟨rfl, hb1⟩
    have HB := Lib.hid hb1
    clear hb1
    go_wp2_with fail
    go_ret
    exact ⟨ret_b (a := false) e.out.symm, HB.out⟩
  | true =>
    rw [h1] at C1
    cases h2 : validB tt with
    | false =>
      have e : Hid (likeB ss tt = false) := by show likeB ss tt = _; unfold likeB; rw [h2]; simp
      rw [h2] at C2
      clear h1 h2 hp hu hq hv
      go_enter Tryd.func17, Tryd.ntmps17
      go_wp2_with fail
      refine C1.out.mono ?_
      rintro e w1 ⟨rfl, hb1⟩
      have HB := Lib.hid hb1
      clear hb1
      go_wp2_with fail
      refine (C2.out _ HB.out).mono ?_
      rintro e w2 ⟨rfl, hb2⟩
      have HB2 := Lib.hid (HB.out.trans (hb2.mono HB.out.size))
      clear hb2
      go_wp2_with fail
      go_ret
      exact ⟨ret_b (a := false) e.out.symm, HB2.out⟩
    | true =>
      rw [h2] at C2
      have P1 : Hid (∀ W, Below w.heap.size w W → PicAt W pb 0 ss) := fun W hb => ⟨h1, u, cell_kept hb hp, hu.below hb⟩
      have P2 : Hid (∀ W, Below w.heap.size w W → PicAt W qb 0 tt) := fun W hb => ⟨h2, v, cell_kept hb hq, hv.below hb⟩
      have e : Hid (likeB ss tt = (decide ((row0 ss).size = (row0 tt).size) && decide (ss.length = tt.length))) := by show likeB ss tt = _; unfold likeB; rw [h1, h2]; rfl
      clear h1 h2 hp hu hq hv
      have CW1 : Hid (∀ W, Below w.heap.size w W → Calls Tryd.prog 29 #[.pointer (some ⟨pb, 0, none⟩)] W fun e w' => e = .returned (.int .i64 (row0 ss).size) ∧ W = w') := fun W h => l01Width_any _ _ ss W (P1.out W h)
      have CW2 : Hid (∀ W, Below w.heap.size w W → Calls Tryd.prog 29 #[.pointer (some ⟨qb, 0, none⟩)] W fun e w' => e = .returned (.int .i64 (row0 tt).size) ∧ W = w') := fun W h => l01Width_any _ _ tt W (P2.out W h)
      have CH1 : Hid (∀ W, Below w.heap.size w W → Calls Tryd.prog 30 #[.pointer (some ⟨pb, 0, none⟩)] W fun e w' => e = .returned (.int .i64 ss.length) ∧ W = w') := fun W h => l01Height_any _ _ ss W (P1.out W h)
      have CH2 : Hid (∀ W, Below w.heap.size w W → Calls Tryd.prog 30 #[.pointer (some ⟨qb, 0, none⟩)] W fun e w' => e = .returned (.int .i64 tt.length) ∧ W = w') := fun W h => l01Height_any _ _ tt W (P2.out W h)
      obtain ⟨a, ha⟩ : ∃ a, (row0 ss).size = a := ⟨_, rfl⟩
      obtain ⟨b, hb⟩ : ∃ a, (row0 tt).size = a := ⟨_, rfl⟩
      obtain ⟨c, hc⟩ : ∃ a, ss.length = a := ⟨_, rfl⟩
      obtain ⟨d, hd⟩ : ∃ a, tt.length = a := ⟨_, rfl⟩
      rw [ha] at CW1 e
      rw [hb] at CW2 e
      rw [hc] at CH1 e
      rw [hd] at CH2 e
      clear ha hb hc hd
      by_cases hw : a = b
      · subst hw
        by_cases hh : c = d
        · subst hh
          have e' : Hid (likeB ss tt = true) := by show likeB ss tt = _; rw [e.out]; simp
          clear e
          go_enter Tryd.func17, Tryd.ntmps17
          go_wp2_with fail
          refine C1.out.mono ?_
          rintro e w1 ⟨rfl, hb1⟩
          have HB := Lib.hid hb1
          clear hb1
          go_wp2_with fail
          refine (C2.out _ HB.out).mono ?_
          rintro e w2 ⟨rfl, hb2⟩
          have HB2 := Lib.hid (HB.out.trans (hb2.mono HB.out.size))
          clear hb2
          go_wp2_with fail
          refine (CW1.out _ HB2.out).mono ?_
          rintro e w' ⟨rfl, rfl⟩
          go_wp2_with fail
          refine (CW2.out _ HB2.out).mono ?_
          rintro e w' ⟨rfl, rfl⟩
          go_wp2_with fail
          refine (CH1.out _ HB2.out).mono ?_
          rintro e w' ⟨rfl, rfl⟩
          go_wp2_with fail
          refine (CH2.out _ HB2.out).mono ?_
          rintro e w' ⟨rfl, rfl⟩
          go_wp2_with fail
          go_ret
          exact ⟨ret_b (a := true) e'.out.symm, HB2.out⟩
        · have hk : ((c : Int) == (d : Int)) = false := by rw [beq_eq_false_iff_ne]; omega
          have e' : Hid (likeB ss tt = false) := by show likeB ss tt = _; rw [e.out]; simp [hh]
          clear e hh
          go_enter Tryd.func17, Tryd.ntmps17
          go_wp2_with fail
          refine C1.out.mono ?_
          rintro e w1 ⟨rfl, hb1⟩
          have HB := Lib.hid hb1
          clear hb1
          go_wp2_with fail
          refine (C2.out _ HB.out).mono ?_
          rintro e w2 ⟨rfl, hb2⟩
          have HB2 := Lib.hid (HB.out.trans (hb2.mono HB.out.size))
          clear hb2
          go_wp2_with fail
          refine (CW1.out _ HB2.out).mono ?_
          rintro e w' ⟨rfl, rfl⟩
          go_wp2_with fail
          refine (CW2.out _ HB2.out).mono ?_
          rintro e w' ⟨rfl, rfl⟩
          go_wp2_with fail
          refine (CH1.out _ HB2.out).mono ?_
          rintro e w' ⟨rfl, rfl⟩
          go_wp2_with fail
          refine (CH2.out _ HB2.out).mono ?_
          rintro e w' ⟨rfl, rfl⟩
          go_wp2_with fail
          go_ret
          exact ⟨ret_b (a := false) e'.out.symm, HB2.out⟩
      · have hk : ((a : Int) == (b : Int)) = false := by rw [beq_eq_false_iff_ne]; omega
        have e' : Hid (likeB ss tt = false) := by show likeB ss tt = _; rw [e.out]; simp [hw]
        clear e hw
        go_enter Tryd.func17, Tryd.ntmps17
        go_wp2_with fail
        refine C1.out.mono ?_
        rintro e w1 ⟨rfl, hb1⟩
        have HB := Lib.hid hb1
        clear hb1
        go_wp2_with fail
        refine (C2.out _ HB.out).mono ?_
        rintro e w2 ⟨rfl, hb2⟩
        have HB2 := Lib.hid (HB.out.trans (hb2.mono HB.out.size))
        clear hb2
        go_wp2_with fail
        refine (CW1.out _ HB2.out).mono ?_
        rintro e w' ⟨rfl, rfl⟩
        go_wp2_with fail
        refine (CW2.out _ HB2.out).mono ?_
        rintro e w' ⟨rfl, rfl⟩
        go_wp2_with fail
        go_ret
        exact ⟨ret_b (a := false) e'.out.symm, HB2.out⟩
end Go.Proofs.YthoffbibaimjlaaDoor
