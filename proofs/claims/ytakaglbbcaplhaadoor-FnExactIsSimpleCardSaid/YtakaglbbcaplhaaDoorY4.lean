/- Contracts of single functions, and plain lemmas, on which the exact laws of this seat rest; each holds under the conditions that it states. -/
import Derived.Test.YtakaglbbcaplhaaDoorS4
namespace Go.Proofs.YtakaglbbcaplhaaDoor
set_option linter.unusedVariables false
set_option linter.unusedSimpArgs false
open Go.RowKit

/-! ### a ring turned by one -/
def rotA (r : Nat) : Nat := (r * 2 % 256) ||| (r / 128)
def rotB (r : Nat) : Nat := (r * 128 % 256) ||| (r / 2)
theorem rotA_lt (r : Nat) (h : r < 256) : rotA r < 256 := Nat.or_lt_two_pow (n := 8) (by omega) (by omega)
theorem rotB_lt (r : Nat) (h : r < 256) : rotB r < 256 := Nat.or_lt_two_pow (n := 8) (by omega) (by omega)

set_option maxHeartbeats 1000000 in
theorem rotate_one (r : Nat) (w : World) (hr : r < 256) : Calls Tryd.prog 176 #[.int .u8 r, .int .i64 1] w fun e w' => e = .returned (.int .u8 ((rotA r : Nat) : Int)) ∧ w = w' := by
  have k1 : bits .and .u64 1 7 = 1 := by kernel_rfl
  have k2 : bits .or .u8 ((r : Int) * 2 % 256) ((r : Int) / 128) = ((rotA r : Nat) : Int) := by
    have := u8_or_nat (r * 2 % 256) (r / 128) (by omega) (by omega)
    have e1 : (r : Int) * 2 % 256 = ((r * 2 % 256 : Nat) : Int) := by omega
    have e2 : (r : Int) / 128 = ((r / 128 : Nat) : Int) := by omega
    rw [e1, e2]
    exact this
  have HK := Lib.hid k2
  clear k2
  go_enter Tryd.func176, Tryd.ntmps176
  go_wp2
  rw [HK.out]
  go_ret
  exact ⟨rfl, rfl⟩
set_option maxHeartbeats 1000000 in
theorem rotate_back (r : Nat) (w : World) (hr : r < 256) : Calls Tryd.prog 176 #[.int .u8 r, .int .i64 (-1)] w fun e w' => e = .returned (.int .u8 ((rotB r : Nat) : Int)) ∧ w = w' := by
  have k1 : bits .and .u64 (IntKind.u64.wrap (-1)) 7 = 7 := by kernel_rfl
  have k2 : bits .or .u8 ((r : Int) * 128 % 256) ((r : Int) / 2) = ((rotB r : Nat) : Int) := by
    have := u8_or_nat (r * 128 % 256) (r / 2) (by omega) (by omega)
    have e1 : (r : Int) * 128 % 256 = ((r * 128 % 256 : Nat) : Int) := by omega
    have e2 : (r : Int) / 2 = ((r / 2 : Nat) : Int) := by omega
    rw [e1, e2]
    exact this
  have HK := Lib.hid k2
  clear k2
  go_enter Tryd.func176, Tryd.ntmps176
  go_wp2
  rw [HK.out]
  go_ret
  exact ⟨rfl, rfl⟩
theorem rotated_one (r : Nat) (w : World) (hr : r < 256) : Calls Tryd.prog 164 #[.int .u8 r, .int .i64 1] w fun e w' => e = .returned (.int .u8 ((rotA r : Nat) : Int)) ∧ w = w' := by
  have C := Lib.hid (rotate_one r w hr)
  go_enter Tryd.func164, Tryd.ntmps164
  go_wp2_with fail
  refine C.out.mono ?_
  rintro e w2 ⟨rfl, rfl⟩
  go_wp2
  go_ret
  exact ⟨rfl, rfl⟩
theorem rotated_back (r : Nat) (w : World) (hr : r < 256) : Calls Tryd.prog 164 #[.int .u8 r, .int .i64 (-1)] w fun e w' => e = .returned (.int .u8 ((rotB r : Nat) : Int)) ∧ w = w' := by
  have C := Lib.hid (rotate_back r w hr)
  go_enter Tryd.func164, Tryd.ntmps164
  go_wp2_with fail
  refine C.out.mono ?_
  rintro e w2 ⟨rfl, rfl⟩
  go_wp2
  go_ret
  exact ⟨rfl, rfl⟩

/-- the ring from which the parts are counted -/
def ringE (r : Nat) (e8 : Bool) : Nat := if e8 then r ||| (rotA r &&& rotB r &&& 170) else r &&& (rotA r ||| rotB r ||| 85)
theorem ringE_lt (r : Nat) (e8 : Bool) (h : r < 256) : ringE r e8 < 256 := by
  have h1 := rotA_lt r h
  have h2 := rotB_lt r h
  unfold ringE
  split
  · exact Nat.or_lt_two_pow (n := 8) (by omega) (Nat.and_lt_two_pow _ (by omega))
  · exact Nat.lt_of_le_of_lt Nat.and_le_left h
/-- how many parts, of the count of ones -/
def ringP (r : Nat) (e8 : Bool) : Nat := if ringE r e8 = 255 then 1 else bs (ringE r e8 &&& (255 - rotA (ringE r e8))) 8
set_option maxHeartbeats 2000000 in
theorem ringParts_any (r : Nat) (e8 : Bool) (w : World) (hr : r < 256) : Calls Tryd.prog 132 #[.int .u8 r, .bool e8] w fun e w' => e = .returned (.int .i64 ((ringP r e8 : Nat) : Int)) ∧ Below w.heap.size w w' := by
  have C1 := Lib.hid (fun W => rotated_one r W hr)
  have C2 := Lib.hid (fun W => rotated_back r W hr)
  have hA := rotA_lt r hr
  have hB := rotB_lt r hr
  have hE := ringE_lt r e8 hr
  have C3 := Lib.hid (fun W => rotated_one (ringE r e8) W hE)
  have hA3 := rotA_lt _ hE
  have HP : Hid (ringP r e8 = if ringE r e8 = 255 then 1 else bs (ringE r e8 &&& (255 - rotA (ringE r e8))) 8) := rfl
  have HE : Hid (ringE r e8 = if e8 then r ||| (rotA r &&& rotB r &&& 170) else r &&& (rotA r ||| rotB r ||| 85)) := rfl
  obtain ⟨E, hEe⟩ : ∃ E, ringE r e8 = E := ⟨_, rfl⟩
  rw [hEe] at hE C3 hA3 HP HE
  obtain ⟨A, hAe⟩ : ∃ A, rotA r = A := ⟨_, rfl⟩
  obtain ⟨B, hBe⟩ : ∃ B, rotB r = B := ⟨_, rfl⟩
  rw [hAe] at hA C1 HE
  rw [hBe] at hB C2 HE
  obtain ⟨A3, hA3e⟩ : ∃ A, rotA E = A := ⟨_, rfl⟩
  rw [hA3e] at hA3 C3 HP
  clear hEe hAe hBe hA3e
  have hfin : Hid (∀ W, Below w.heap.size w W → E ≠ 255 → Calls Tryd.prog 165 #[.int .u8 ((E &&& (255 - A3) : Nat) : Int)] W fun e w' => e = .returned (.int .i64 ((ringP r e8 : Nat) : Int)) ∧ Below W.heap.size W w') := fun W _ hne => by
    have hD : E &&& (255 - A3) < 256 := Nat.lt_of_le_of_lt Nat.and_le_left hE
    have C := Lib.hid (onesCount8_any (E &&& (255 - A3)) W hD)
    have hv : Hid (ringP r e8 = bs (E &&& (255 - A3)) 8) := by show _ = _; rw [HP.out, if_neg hne]
    obtain ⟨D, hDe⟩ : ∃ D, E &&& (255 - A3) = D := ⟨_, rfl⟩
    rw [hDe] at C hv ⊢
    clear hDe hD hne
    go_enter Tryd.func165, Tryd.ntmps165
    go_wp2_with fail
    refine C.out.mono ?_
    rintro e w2 ⟨rfl, hb⟩
    have HB := Lib.hid hb
    clear hb
    go_wp2
    go_ret
    exact ⟨by rw [hv.out]; rfl, HB.out⟩
  have kan : bits .andNot .u8 (E : Int) (A3 : Int) = ((E &&& (255 - A3) : Nat) : Int) := u8_andNot_nat E A3 hE hA3
  obtain ⟨D, hDe⟩ : ∃ D, E &&& (255 - A3) = D := ⟨_, rfl⟩
  rw [hDe] at kan hfin
  clear hDe
  have hone : Hid (E = 255 → ringP r e8 = 1) := fun h => by rw [HP.out, if_pos h]
  cases e8 with
  | true =>
    have hEv : E = r ||| (A &&& B &&& 170) := HE.out
    have k1 : bits .and .u8 (A : Int) (B : Int) = ((A &&& B : Nat) : Int) := u8_and_nat A B hA hB
    have hAB : A &&& B < 256 := Nat.lt_of_le_of_lt Nat.and_le_left hA
    have k2 : bits .and .u8 ((A &&& B : Nat) : Int) 170 = ((A &&& B &&& 170 : Nat) : Int) := u8_and_nat (A &&& B) 170 hAB (by omega)
    have hABC : A &&& B &&& 170 < 256 := Nat.lt_of_le_of_lt Nat.and_le_left hAB
    have k3 : bits .or .u8 (r : Int) ((A &&& B &&& 170 : Nat) : Int) = (E : Int) := by rw [hEv]; exact u8_or_nat r _ hr hABC
    obtain ⟨G1, h1⟩ : ∃ g, A &&& B = g := ⟨_, rfl⟩
    rw [h1] at k1 k2 k3
    obtain ⟨G2, h2⟩ : ∃ g, G1 &&& 170 = g := ⟨_, rfl⟩
    rw [h2] at k2 k3
    clear hEv hAB hABC h1 h2 HE HP
    go_enter Tryd.func132, Tryd.ntmps132
    go_wp2_with fail
    refine (C1.out _).mono ?_
    rintro e w2 ⟨rfl, rfl⟩
    go_wp2_with fail
    refine (C2.out _).mono ?_
    rintro e w2 ⟨rfl, rfl⟩
    by_cases hE5 : E = 255
    · have hR := Lib.hid (hone.out hE5)
      have kt : ((E : Int) == 255) = true := by simp; omega
      clear hE5 hone hfin
      go_wp2
      go_ret
      exact ⟨by rw [hR.out]; rfl, Below.refl _ _⟩
    · have CF := Lib.hid (fun W hb => hfin.out W hb hE5)
      have kt : ((E : Int) == 255) = false := by simp; omega
      clear hone hfin hE5
      go_wp2_with fail
      refine (C3.out _).mono ?_
      rintro e w2 ⟨rfl, rfl⟩
      go_wp2_with fail
      refine (CF.out _ (Below.refl _ _)).mono ?_
      rintro e w2 ⟨rfl, hb⟩
      have HB := Lib.hid hb
      clear hb
      go_wp2
      go_ret
      exact ⟨rfl, HB.out⟩
  | false =>
    have hEv : E = r &&& (A ||| B ||| 85) := HE.out
    have k1 : bits .or .u8 (A : Int) (B : Int) = ((A ||| B : Nat) : Int) := u8_or_nat A B hA hB
    have hAB : A ||| B < 256 := Nat.or_lt_two_pow (n := 8) hA hB
    have k2 : bits .or .u8 ((A ||| B : Nat) : Int) 85 = ((A ||| B ||| 85 : Nat) : Int) := u8_or_nat (A ||| B) 85 hAB (by omega)
    have hABC : A ||| B ||| 85 < 256 := Nat.or_lt_two_pow (n := 8) hAB (by omega)
    have k3 : bits .and .u8 (r : Int) ((A ||| B ||| 85 : Nat) : Int) = (E : Int) := by rw [hEv]; exact u8_and_nat r _ hr hABC
    obtain ⟨G1, h1⟩ : ∃ g, A ||| B = g := ⟨_, rfl⟩
    rw [h1] at k1 k2 k3
    obtain ⟨G2, h2⟩ : ∃ g, G1 ||| 85 = g := ⟨_, rfl⟩
    rw [h2] at k2 k3
    clear hEv hAB hABC h1 h2 HE HP
    go_enter Tryd.func132, Tryd.ntmps132
    go_wp2_with fail
    refine (C1.out _).mono ?_
    rintro e w2 ⟨rfl, rfl⟩
    go_wp2_with fail
    refine (C2.out _).mono ?_
    rintro e w2 ⟨rfl, rfl⟩
    by_cases hE5 : E = 255
    · have hR := Lib.hid (hone.out hE5)
      have kt : ((E : Int) == 255) = true := by simp; omega
      clear hE5 hone hfin
      go_wp2
      go_ret
      exact ⟨by rw [hR.out]; rfl, Below.refl _ _⟩
    · have CF := Lib.hid (fun W hb => hfin.out W hb hE5)
      have kt : ((E : Int) == 255) = false := by simp; omega
      clear hone hfin hE5
      go_wp2_with fail
      refine (C3.out _).mono ?_
      rintro e w2 ⟨rfl, rfl⟩
      go_wp2_with fail
      refine (CF.out _ (Below.refl _ _)).mono ?_
      rintro e w2 ⟨rfl, hb⟩
      have HB := Lib.hid hb
      clear hb
      go_wp2
      go_ret
      exact ⟨rfl, HB.out⟩
end Go.Proofs.YtakaglbbcaplhaaDoor

/- Contracts of single functions, and plain lemmas, on which the exact laws of this seat rest; each holds under the conditions that it states. -/
namespace Go.Proofs.YtakaglbbcaplhaaDoor
set_option linter.unusedVariables false
set_option linter.unusedSimpArgs false
open Go.RowKit

theorem not8 (r : Nat) (h : r < 256) : bits .xor .u8 IntKind.u8.max (r : Int) = ((255 - r : Nat) : Int) := by
  have e : ∀ q : Fin 256, 255 ^^^ q.val = 255 - q.val := by decide +kernel
  rw [show (IntKind.u8.max : Int) = ((255 : Nat) : Int) from rfl, u8_xor_nat 255 r (by omega) h]
  rw [e ⟨r, h⟩]
/-- is a black pixel with this ring simple -/
def ringS (r : Nat) (e8 : Bool) : Bool := decide (ringP r e8 = 1) && decide (ringP (255 - r) (!e8) = 1)
set_option maxHeartbeats 2000000 in
theorem ringSimple_any (r : Nat) (e8 : Bool) (w : World) (hr : r < 256) : Calls Tryd.prog 60 #[.int .u8 r, .bool e8] w fun e w' => e = .returned (.bool (ringS r e8)) ∧ Below w.heap.size w w' := by
  have C1 := Lib.hid (ringParts_any r e8 w hr)
  have C2 := Lib.hid (fun W => ringParts_any (255 - r) (!e8) W (by omega))
  have HS : Hid (ringS r e8 = (decide (ringP r e8 = 1) && decide (ringP (255 - r) (!e8) = 1))) := rfl
  have kx := not8 r hr
  obtain ⟨n1, h1⟩ : ∃ n, ringP r e8 = n := ⟨_, rfl⟩
  obtain ⟨n2, h2⟩ : ∃ n, ringP (255 - r) (!e8) = n := ⟨_, rfl⟩
  obtain ⟨R, hR⟩ : ∃ n, ringS r e8 = n := ⟨_, rfl⟩
  rw [h1] at C1 HS
  rw [h2] at C2 HS
  rw [hR] at HS ⊢
  obtain ⟨q, hq⟩ : ∃ q, 255 - r = q := ⟨_, rfl⟩
  rw [hq] at C2 kx
  clear h1 h2 hR hq
  by_cases e1 : n1 = 1
  · subst e1
    have k1 : (((1 : Nat) : Int) == 1) = true := rfl
    by_cases e2 : n2 = 1
    · subst e2
      have hR : Hid (R = true) := HS.out
      clear HS
      go_enter Tryd.func60, Tryd.ntmps60
      go_wp2_with fail
      refine C1.out.mono ?_
      rintro e w2 ⟨rfl, hb⟩
      have HB := Lib.hid hb
      clear hb
      go_wp2_with fail
      refine (C2.out _).mono ?_
      rintro e w3 ⟨rfl, hb3⟩
      have HB3 := Lib.hid (HB.out.trans (hb3.mono HB.out.size))
      clear hb3
      go_wp2
      go_ret
      exact ⟨ret_bool (a := true) hR.out.symm, HB3.out⟩
    · have k2 : ((n2 : Int) == 1) = false := by simp; omega
      have hR : Hid (R = false) := by show _ = _; rw [HS.out]; simp [e2]
      clear HS e2
      go_enter Tryd.func60, Tryd.ntmps60
      go_wp2_with fail
      refine C1.out.mono ?_
      rintro e w2 ⟨rfl, hb⟩
      have HB := Lib.hid hb
      clear hb
      go_wp2_with fail
      refine (C2.out _).mono ?_
      rintro e w3 ⟨rfl, hb3⟩
      have HB3 := Lib.hid (HB.out.trans (hb3.mono HB.out.size))
      clear hb3
      go_wp2
      go_ret
      exact ⟨ret_bool (a := false) hR.out.symm, HB3.out⟩
  · have k1 : ((n1 : Int) == 1) = false := by simp; omega
    have hR : Hid (R = false) := by show _ = _; rw [HS.out]; simp [e1]
    clear HS e1
    go_enter Tryd.func60, Tryd.ntmps60
    go_wp2_with fail
    refine C1.out.mono ?_
    rintro e w2 ⟨rfl, hb⟩
    have HB := Lib.hid hb
    clear hb
    go_wp2
    go_ret
    exact ⟨ret_bool (a := false) hR.out.symm, HB.out⟩
end Go.Proofs.YtakaglbbcaplhaaDoor
