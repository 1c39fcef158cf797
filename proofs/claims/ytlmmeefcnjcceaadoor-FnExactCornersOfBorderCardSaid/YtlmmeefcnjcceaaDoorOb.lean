/- Contracts of single functions, and plain lemmas, on which the exact laws of this seat rest; each holds under the conditions that it states. -/
import Derived.Test.YtlmmeefcnjcceaaDoorOa
import Derived.Deep.QuietTactic
import Derived.BigQuiet
namespace Go.Proofs.YtlmmeefcnjcceaaDoor
set_option linter.unusedVariables false
set_option linter.unusedSimpArgs false
open Go.RowKit

theorem eqI_yes {a b : Int} (h : a = b) : (a == b) = true := beq_iff_eq.2 h
theorem eqI_no {a b : Int} (h : a ≠ b) : (a == b) = false := by simpa using h

set_option maxHeartbeats 1000000 in
theorem l04Way_any (c : Int) (w : World) : Calls Tryd.prog 38 #[.int .u8 c] w fun e w' => e = .returned (.int .i64 (wayI c)) ∧ w = w' := by
  have H0 : Hid (∀ j : Int, 0 ≤ j → j < 0 → True) := fun _ _ _ => trivial
  go_enter Tryd.func38, Tryd.ntmps38
  go_wp2
  go_loop [3] (fun iv => ∃ k : Int, 0 ≤ k ∧ k ≤ 4 ∧ iv = .int .i64 k ∧ Hid ((0 < k → c ≠ 114) ∧ (1 < k → c ≠ 100) ∧ (2 < k → c ≠ 108) ∧ (3 < k → c ≠ 117))) (fun iv => 4 - (intOf iv).toNat)
  case atStart => exact ⟨0, by omega, by omega, rfl, ⟨fun h => by omega, fun h => by omega, fun h => by omega, fun h => by omega⟩⟩
  case round =>
    obtain ⟨k, hk0, hk4, rfl, HK⟩ := hrel
    rcases (by omega : k = 0 ∨ k = 1 ∨ k = 2 ∨ k = 3 ∨ k = 4) with rfl | rfl | rfl | rfl | rfl
    · by_cases hc : c = 114
      · have hb : (c == (((⟨#[114, 100, 108, 117]⟩ : ByteArray)[0]'(by decide)).toNat : Int)) = true := eqI_yes hc
        have HW : Hid (wayI c = 0) := by show _ = _; unfold wayI; rw [if_pos hc]
        clear hc HK
        go_wp2
        go_ret
        exact ⟨ret_int HW.out.symm, rfl⟩
      · have hb : (c == (((⟨#[114, 100, 108, 117]⟩ : ByteArray)[0]'(by decide)).toNat : Int)) = false := eqI_no hc
        have HK2 : Hid ((0 < (1 : Int) → c ≠ 114) ∧ (1 < (1 : Int) → c ≠ 100) ∧ (2 < (1 : Int) → c ≠ 108) ∧ (3 < (1 : Int) → c ≠ 117)) := ⟨fun _ => hc, fun h => by omega, fun h => by omega, fun h => by omega⟩
        clear hc HK
        go_wp2
        go_round
        case rel => exact ⟨1, by omega, by omega, rfl, HK2.out⟩
        case measure => simp [intOf]
    · have hp := HK.out.1 (by omega)
      by_cases hc : c = 100
      · have hb : (c == (((⟨#[114, 100, 108, 117]⟩ : ByteArray)[1]'(by decide)).toNat : Int)) = true := eqI_yes hc
        have HW : Hid (wayI c = 1) := by show _ = _; unfold wayI; rw [if_neg hp, if_pos hc]
        clear hc HK hp
        go_wp2
        go_ret
        exact ⟨ret_int HW.out.symm, rfl⟩
      · have hb : (c == (((⟨#[114, 100, 108, 117]⟩ : ByteArray)[1]'(by decide)).toNat : Int)) = false := eqI_no hc
        have HK2 : Hid ((0 < (2 : Int) → c ≠ 114) ∧ (1 < (2 : Int) → c ≠ 100) ∧ (2 < (2 : Int) → c ≠ 108) ∧ (3 < (2 : Int) → c ≠ 117)) := ⟨fun _ => hp, fun _ => hc, fun h => by omega, fun h => by omega⟩
        clear hc HK hp
        go_wp2
        go_round
        case rel => exact ⟨2, by omega, by omega, rfl, HK2.out⟩
        case measure => simp [intOf]
    · have hp := HK.out.1 (by omega)
      have hp2 := HK.out.2.1 (by omega)
      by_cases hc : c = 108
      · have hb : (c == (((⟨#[114, 100, 108, 117]⟩ : ByteArray)[2]'(by decide)).toNat : Int)) = true := eqI_yes hc
        have HW : Hid (wayI c = 2) := by show _ = _; unfold wayI; rw [if_neg hp, if_neg hp2, if_pos hc]
        clear hc HK hp hp2
        go_wp2
        go_ret
        exact ⟨ret_int HW.out.symm, rfl⟩
      · have hb : (c == (((⟨#[114, 100, 108, 117]⟩ : ByteArray)[2]'(by decide)).toNat : Int)) = false := eqI_no hc
        have HK2 : Hid ((0 < (3 : Int) → c ≠ 114) ∧ (1 < (3 : Int) → c ≠ 100) ∧ (2 < (3 : Int) → c ≠ 108) ∧ (3 < (3 : Int) → c ≠ 117)) := ⟨fun _ => hp, fun _ => hp2, fun _ => hc, fun h => by omega⟩
        clear hc HK hp hp2
        go_wp2
        go_round
        case rel => exact ⟨3, by omega, by omega, rfl, HK2.out⟩
        case measure => simp [intOf]
    · have hp := HK.out.1 (by omega)
      have hp2 := HK.out.2.1 (by omega)
      have hp3 := HK.out.2.2.1 (by omega)
      by_cases hc : c = 117
      · have hb : (c == (((⟨#[114, 100, 108, 117]⟩ : ByteArray)[3]'(by decide)).toNat : Int)) = true := eqI_yes hc
        have HW : Hid (wayI c = 3) := by show _ = _; unfold wayI; rw [if_neg hp, if_neg hp2, if_neg hp3, if_pos hc]
        clear hc HK hp hp2 hp3
        go_wp2
        go_ret
        exact ⟨ret_int HW.out.symm, rfl⟩
      · have hb : (c == (((⟨#[114, 100, 108, 117]⟩ : ByteArray)[3]'(by decide)).toNat : Int)) = false := eqI_no hc
        have HK2 : Hid ((0 < (4 : Int) → c ≠ 114) ∧ (1 < (4 : Int) → c ≠ 100) ∧ (2 < (4 : Int) → c ≠ 108) ∧ (3 < (4 : Int) → c ≠ 117)) := ⟨fun _ => hp, fun _ => hp2, fun _ => hp3, fun _ => hc⟩
        clear hc HK hp hp2 hp3
        go_wp2
        go_round
        case rel => exact ⟨4, by omega, by omega, rfl, HK2.out⟩
        case measure => simp [intOf]
    · have HW : Hid (wayI c = -1) := by
        show _ = _
        obtain ⟨h1, h2, h3, h4⟩ := HK.out
        unfold wayI
        rw [if_neg (h1 (by omega)), if_neg (h2 (by omega)), if_neg (h3 (by omega)), if_neg (h4 (by omega))]
      clear HK
      go_wp2
      go_ret
      exact ⟨ret_int HW.out.symm, rfl⟩

theorem l04X_any (d : Int) (w : World) : Calls Tryd.prog 40 #[.int .i64 d] w fun e w' => e = .returned (.int .i64 (dX d)) ∧ w = w' := by
  by_cases h0 : d = 0
  · have hb := eqI_yes h0
    have HW : Hid (dX d = 1) := by show _ = _; unfold dX; rw [if_pos h0]
    clear h0
    go_enter Tryd.func40, Tryd.ntmps40
    go_wp2
    go_ret
    exact ⟨ret_int HW.out.symm, rfl⟩
  · have hb := eqI_no h0
    by_cases h2 : d = 2
    · have hb2 := eqI_yes h2
      have HW : Hid (dX d = -1) := by show _ = _; unfold dX; rw [if_neg h0, if_pos h2]
      clear h0 h2
      go_enter Tryd.func40, Tryd.ntmps40
      go_wp2
      go_ret
      exact ⟨ret_int HW.out.symm, rfl⟩
    · have hb2 := eqI_no h2
      have HW : Hid (dX d = 0) := by show _ = _; unfold dX; rw [if_neg h0, if_neg h2]
      clear h0 h2
      go_enter Tryd.func40, Tryd.ntmps40
      go_wp2
      go_ret
      exact ⟨ret_int HW.out.symm, rfl⟩
theorem l04Y_any (d : Int) (w : World) : Calls Tryd.prog 39 #[.int .i64 d] w fun e w' => e = .returned (.int .i64 (dY d)) ∧ w = w' := by
  by_cases h0 : d = 1
  · have hb := eqI_yes h0
    have HW : Hid (dY d = 1) := by show _ = _; unfold dY; rw [if_pos h0]
    clear h0
    go_enter Tryd.func39, Tryd.ntmps39
    go_wp2
    go_ret
    exact ⟨ret_int HW.out.symm, rfl⟩
  · have hb := eqI_no h0
    by_cases h2 : d = 3
    · have hb2 := eqI_yes h2
      have HW : Hid (dY d = -1) := by show _ = _; unfold dY; rw [if_neg h0, if_pos h2]
      clear h0 h2
      go_enter Tryd.func39, Tryd.ntmps39
      go_wp2
      go_ret
      exact ⟨ret_int HW.out.symm, rfl⟩
    · have hb2 := eqI_no h2
      have HW : Hid (dY d = 0) := by show _ = _; unfold dY; rw [if_neg h0, if_neg h2]
      clear h0 h2
      go_enter Tryd.func39, Tryd.ntmps39
      go_wp2
      go_ret
      exact ⟨ret_int HW.out.symm, rfl⟩

/-- a bool and a world in which more has been made -/
theorem l04Corner_any (x y : Int) (w : World) : Calls Tryd.prog 59 #[.agg #[.int .i64 x, .int .i64 y]] w (SaysB (cornB x y) w) := by
  cases hx : inB x 0 16 with
  | false =>
    have HX := Lib.hid hx
    have HC : Hid (cornB x y = false) := by
      show _ = _
      unfold cornB corn
      unfold inB at hx
      simp at hx
      exact decide_eq_false (fun h => by omega)
    clear hx
    go_enter Tryd.func59, Tryd.ntmps59
    go_wp2_with fail
    refine (l00In_any _ _ _ _).mono ?_
    rintro e w' ⟨rfl, rfl⟩
    rw [HX.out]
    go_wp2_with fail
    go_ret
    exact ⟨ret_bool (a := false) HC.out.symm, Joins.below_alloc1 _ _⟩
  | true =>
    have HX := Lib.hid hx
    have HC : Hid (cornB x y = inB y 0 16) := by
      show _ = _
      unfold inB at hx
      simp at hx
      unfold cornB corn inB
      rw [Bool.eq_iff_iff]
      simp [hx]
    clear hx
    go_enter Tryd.func59, Tryd.ntmps59
    go_wp2_with fail
    refine (l00In_any _ _ _ _).mono ?_
    rintro e w' ⟨rfl, rfl⟩
    rw [HX.out]
    go_wp2_with fail
    refine (l00In_any _ _ _ _).mono ?_
    rintro e w' ⟨rfl, rfl⟩
    go_wp2_with fail
    go_ret
    exact ⟨ret_bool HC.out.symm, Joins.below_alloc1 _ _⟩
end Go.Proofs.YtlmmeefcnjcceaaDoor
