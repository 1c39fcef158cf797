/- Contracts of single functions, and plain lemmas, on which the exact laws of this seat rest; each holds under the conditions that it states. -/
import Derived.Test.YthblhibkbcmbaaaDoorCV7
import Derived.Test.YthblhibkbcmbaaaDoorGD
import Derived.Test.YthblhibkbcmbaaaDoorD3
import Derived.BigRegion
namespace Go.Proofs.YthblhibkbcmbaaaDoor
set_option linter.unusedVariables false
set_option linter.unusedSimpArgs false
open Go.RowKit
attribute [local go_sem] Oper.semAt_some

def ixOk (c n x y : Int) : Bool := (inB c 0 3 && inB n 0 4) && (inB x 0 (sd n - 1) && inB y 0 (sd n - 1))
def ixV (c n x y : Int) : Int := if ixOk c n x y = true then ixS c.toNat n.toNat x.toNat y.toNat else 0
/-- the four numbers in variables -/
def IxAt (W : World) (pc pn px py : Nat) (c n x y : Int) : Prop :=
  W.cell? ⟨pc, 0, none⟩ = some (.int .i64 c) ∧ W.cell? ⟨pn, 0, none⟩ = some (.int .i64 n) ∧ W.cell? ⟨px, 0, none⟩ = some (.int .i64 x) ∧ W.cell? ⟨py, 0, none⟩ = some (.int .i64 y)
theorem IxAt.kept {w W : World} {pc pn px py : Nat} {c n x y : Int} (h : IxAt w pc pn px py c n x y) (hb : Below w.heap.size w W) : IxAt W pc pn px py c n x y :=
  ⟨cell_kept hb h.1, cell_kept hb h.2.1, cell_kept hb h.2.2.1, cell_kept hb h.2.2.2⟩
theorem inB_le {x a b : Int} (h : inB x a b = true) : a ≤ x ∧ x ≤ b := by
  unfold inB at h
  simpa using h
/-- what is known of four numbers that have an index -/
theorem ix_nat {c n x y : Int} (h : ixOk c n x y = true) : ∃ c' n' x' y' : Nat, c = c' ∧ n = n' ∧ x = x' ∧ y = y' ∧ c' < 4 ∧ n' ≤ 4 ∧ x' < 2 ^ n' ∧ y' < 2 ^ n' := by
  unfold ixOk at h
  simp only [Bool.and_eq_true] at h
  obtain ⟨⟨h1, h2⟩, h3, h4⟩ := h
  have h1 := inB_le h1
  have h2 := inB_le h2
  have h3 := inB_le h3
  have h4 := inB_le h4
  obtain ⟨n', rfl⟩ : ∃ k : Nat, n = k := ⟨n.toNat, by omega⟩
  rw [sd_nat] at h3 h4
  exact ⟨c.toNat, n', x.toNat, y.toNat, by omega, rfl, by omega, by omega, by omega, by omega, by omega, by omega⟩

end Go.Proofs.YthblhibkbcmbaaaDoor

/- Contracts of single functions, and plain lemmas, on which the exact laws of this seat rest; each holds under the conditions that it states. -/
namespace Go.Proofs.YthblhibkbcmbaaaDoor
set_option linter.unusedVariables false
set_option linter.unusedSimpArgs false
open Go.RowKit
attribute [local go_sem] Oper.semAt_some

theorem l08Ask_any (c n : Int) (w : World) : Calls Tryd.prog 29 #[.int .i64 c, .int .i64 n] w (fun e w' => e = .returned (.bool (inB c 0 3 && inB n 0 4)) ∧ w = w') := by
  have C1 := Lib.hid (fun W => l00In_any c 0 3 W)
  have C2 := Lib.hid (fun W => l00In_any n 0 4 W)
  obtain ⟨b, hb⟩ : ∃ b, inB c 0 3 = b := ⟨_, rfl⟩
  obtain ⟨d, hd⟩ : ∃ b, inB n 0 4 = b := ⟨_, rfl⟩
  rw [hb] at C1 ⊢
  rw [hd] at C2 ⊢
  clear hb hd
  go_enter Tryd.func29, Tryd.ntmps29
  go_wp2_with fail
  refine (C1.out _).mono ?_
  rintro e w' ⟨rfl, rfl⟩
  cases b with
  | false =>
    go_wp2_with fail
    go_ret
    exact ⟨rfl, rfl⟩
  | true =>
    go_wp2_with fail
    refine (C2.out _).mono ?_
    rintro e w' ⟨rfl, rfl⟩
    go_wp2_with fail
    go_ret
    exact ⟨ret_bool (Bool.true_and _).symm, rfl⟩

set_option maxHeartbeats 2000000 in
set_option maxRecDepth 100000 in
theorem l08Turns_any : ∀ (n x y : Nat) (w : World), n ≤ 4 → x < 2 ^ n → y < 2 ^ n → Calls Tryd.prog 78 #[.int .i64 (n : Int), .int .i64 (x : Int), .int .i64 (y : Int)] w (fun e w' => e = .returned (.int .i64 ((tnS n x y : Nat) : Int)) ∧ w = w')
  | 0, x, y, w, _, _, _ => by
    go_enter Tryd.func78, Tryd.ntmps78
    go_wp2
    go_ret
    exact ⟨rfl, rfl⟩
  | n + 1, x, y, w, hn, hx, hy => by
    have IH := l08Turns_any n
    have CS := Lib.hid (fun W => l08Side_any (n : Int) W (by omega) (by omega))
    have hp1 : 1 ≤ 2 ^ n := Nat.one_le_two_pow
    have hp8 : 2 ^ n ≤ 8 := by have := Nat.pow_le_pow_right (n := 2) (by omega) (show n ≤ 3 by omega); omega
    rw [sd_nat] at CS
    rw [Nat.pow_succ] at hx hy
    have hE : tnS (n + 1) x y = if x < 2 ^ n ∧ y < 2 ^ n then tnS n y x else if x < 2 ^ n then 2 ^ n * 2 ^ n + tnS n x (y - 2 ^ n) else if 2 ^ n ≤ y then 2 * (2 ^ n * 2 ^ n) + tnS n (x - 2 ^ n) (y - 2 ^ n) else 3 * (2 ^ n * 2 ^ n) + tnS n (2 ^ n - 1 - y) (2 * 2 ^ n - 1 - x) := rfl
    have HL := tnS_lt n
    obtain ⟨p, hp⟩ : ∃ p, 2 ^ n = p := ⟨_, rfl⟩
    rw [hp] at CS hp1 hp8 hx hy hE HL
    have IH2 := Lib.hid (fun (a b : Nat) (W : World) (ha : a < p) (hb : b < p) => IH a b W (by omega) (by rw [hp]; exact ha) (by rw [hp]; exact hb))
    obtain ⟨q, hq⟩ : ∃ q, p * p = q := ⟨_, rfl⟩
    have hq64 : q ≤ 64 := by rw [← hq]; exact Nat.mul_le_mul hp8 hp8
    rw [hq] at hE HL
    have kq : (p : Int) * (p : Int) = (q : Int) := by rw [← hq]; exact (Int.natCast_mul p p).symm
    obtain ⟨N, hN⟩ : ∃ N : Int, ((n + 1 : Nat) : Int) = N := ⟨_, rfl⟩
    have n0 : ¬ N = 0 := by omega
    have n4 : N ≤ 4 := by omega
    have n1 : 1 ≤ N := by omega
    have eN : N - 1 = (n : Int) := by omega
    obtain ⟨M, hM⟩ : ∃ M : Int, (n : Int) = M := ⟨_, rfl⟩
    rw [hM] at CS IH2 eN
    have eM : N = M + 1 := by omega
    have mw : IntKind.i64.wrap (N - 1) = M := by rw [eN]; exact IntWalk.i64_in _ (by omega)
    rw [hN, hE]
    have HLh := Lib.hid HL
    have p1 : (1 : Int) ≤ (p : Int) := by omega
    have p8 : (p : Int) ≤ 8 := by omega
    have x0 : (0 : Int) ≤ (x : Int) := by omega
    have y0 : (0 : Int) ≤ (y : Int) := by omega
    have x1 : (x : Int) < 2 * (p : Int) := by omega
    have y1 : (y : Int) < 2 * (p : Int) := by omega
    have qw : IntKind.i64.wrap ((p : Int) * (p : Int)) = (q : Int) := by rw [kq]; exact IntWalk.i64_in _ (by omega)
    clear IH hE HL hN hM hp hq kq eN eM
    by_cases h1 : x < p
    · have k1 : (x : Int) < (p : Int) := by omega
      by_cases h2 : y < p
      · have k2 : (y : Int) < (p : Int) := by omega
        rw [if_pos ⟨h1, h2⟩]
        have C := Lib.hid (IH2.out y x w h2 h1)
        obtain ⟨t, ht⟩ : ∃ t, tnS n y x = t := ⟨_, rfl⟩
        rw [ht] at C ⊢
        clear IH2 HLh ht
        go_enter Tryd.func78, Tryd.ntmps78
        go_wp2_with fail
        refine (CS.out _).mono ?_
        rintro e w' ⟨rfl, rfl⟩
        go_wp2_with fail
        refine C.out.mono ?_
        rintro e w' ⟨rfl, rfl⟩
        go_wp2
        go_ret
        exact ⟨rfl, rfl⟩
      · have k2 : ¬ (y : Int) < (p : Int) := by omega
        rw [if_neg (fun h => h2 h.2), if_pos h1]
        have C := Lib.hid (IH2.out x (y - p) w h1 (by omega))
        have hlt := HLh.out x (y - p)
        obtain ⟨t, ht⟩ : ∃ t, tnS n x (y - p) = t := ⟨_, rfl⟩
        rw [ht] at C hlt ⊢
        have yw : IntKind.i64.wrap ((y : Int) - (p : Int)) = ((y - p : Nat) : Int) := by rw [show (y : Int) - (p : Int) = ((y - p : Nat) : Int) from by omega]; exact IntWalk.i64_in _ (by omega)
        have tw : IntKind.i64.wrap ((q : Int) + (t : Int)) = ((q + t : Nat) : Int) := by rw [show (q : Int) + (t : Int) = ((q + t : Nat) : Int) from by omega]; exact IntWalk.i64_in _ (by omega)
        obtain ⟨z, hz⟩ : ∃ z : Nat, y - p = z := ⟨_, rfl⟩
        rw [hz] at C yw
        obtain ⟨r, hr⟩ : ∃ z : Nat, q + t = z := ⟨_, rfl⟩
        rw [hr] at tw ⊢
        clear IH2 HLh ht hz hr
        go_enter Tryd.func78, Tryd.ntmps78
        go_wp2_with fail
        refine (CS.out _).mono ?_
        rintro e w' ⟨rfl, rfl⟩
        go_wp2_with fail
        refine C.out.mono ?_
        rintro e w' ⟨rfl, rfl⟩
        go_wp2
        go_ret
        exact ⟨by first | rfl | exact ret_int (by omega), rfl⟩
    · have k1 : ¬ (x : Int) < (p : Int) := by omega
      by_cases h2 : p ≤ y
      · have k2 : (p : Int) ≤ (y : Int) := by omega
        rw [if_neg (fun h => h1 h.1), if_neg h1, if_pos h2]
        have C := Lib.hid (IH2.out (x - p) (y - p) w (by omega) (by omega))
        have hlt := HLh.out (x - p) (y - p)
        obtain ⟨t, ht⟩ : ∃ t, tnS n (x - p) (y - p) = t := ⟨_, rfl⟩
        rw [ht] at C hlt ⊢
        have xw : IntKind.i64.wrap ((x : Int) - (p : Int)) = ((x - p : Nat) : Int) := by rw [show (x : Int) - (p : Int) = ((x - p : Nat) : Int) from by omega]; exact IntWalk.i64_in _ (by omega)
        have yw : IntKind.i64.wrap ((y : Int) - (p : Int)) = ((y - p : Nat) : Int) := by rw [show (y : Int) - (p : Int) = ((y - p : Nat) : Int) from by omega]; exact IntWalk.i64_in _ (by omega)
        have uw : IntKind.i64.wrap (2 * (q : Int)) = 2 * (q : Int) := IntWalk.i64_in _ (by omega)
        have tw : IntKind.i64.wrap (2 * (q : Int) + (t : Int)) = ((2 * q + t : Nat) : Int) := by rw [show 2 * (q : Int) + (t : Int) = ((2 * q + t : Nat) : Int) from by omega]; exact IntWalk.i64_in _ (by omega)
        obtain ⟨z, hz⟩ : ∃ z : Nat, y - p = z := ⟨_, rfl⟩
        obtain ⟨z2, hz2⟩ : ∃ z : Nat, x - p = z := ⟨_, rfl⟩
        rw [hz] at C yw
        rw [hz2] at C xw
        obtain ⟨r, hr⟩ : ∃ z : Nat, 2 * q + t = z := ⟨_, rfl⟩
        rw [hr] at tw ⊢
        clear IH2 HLh ht hz hz2 hr
        go_enter Tryd.func78, Tryd.ntmps78
        go_wp2_with fail
        refine (CS.out _).mono ?_
        rintro e w' ⟨rfl, rfl⟩
        go_wp2_with fail
        refine C.out.mono ?_
        rintro e w' ⟨rfl, rfl⟩
        go_wp2
        go_ret
        exact ⟨by first | rfl | exact ret_int (by omega), rfl⟩
      · have k2 : ¬ (p : Int) ≤ (y : Int) := by omega
        rw [if_neg (fun h => h1 h.1), if_neg h1, if_neg h2]
        have C := Lib.hid (IH2.out (p - 1 - y) (2 * p - 1 - x) w (by omega) (by omega))
        have hlt := HLh.out (p - 1 - y) (2 * p - 1 - x)
        obtain ⟨t, ht⟩ : ∃ t, tnS n (p - 1 - y) (2 * p - 1 - x) = t := ⟨_, rfl⟩
        rw [ht] at C hlt ⊢
        have aw : IntKind.i64.wrap ((p : Int) - 1) = (p : Int) - 1 := IntWalk.i64_in _ (by omega)
        have yw : IntKind.i64.wrap ((p : Int) - 1 - (y : Int)) = ((p - 1 - y : Nat) : Int) := by rw [show (p : Int) - 1 - (y : Int) = ((p - 1 - y : Nat) : Int) from by omega]; exact IntWalk.i64_in _ (by omega)
        have bw : IntKind.i64.wrap (2 * (p : Int)) = 2 * (p : Int) := IntWalk.i64_in _ (by omega)
        have cw : IntKind.i64.wrap (2 * (p : Int) - 1) = 2 * (p : Int) - 1 := IntWalk.i64_in _ (by omega)
        have xw : IntKind.i64.wrap (2 * (p : Int) - 1 - (x : Int)) = ((2 * p - 1 - x : Nat) : Int) := by rw [show 2 * (p : Int) - 1 - (x : Int) = ((2 * p - 1 - x : Nat) : Int) from by omega]; exact IntWalk.i64_in _ (by omega)
        have uw : IntKind.i64.wrap (3 * (q : Int)) = 3 * (q : Int) := IntWalk.i64_in _ (by omega)
        have tw : IntKind.i64.wrap (3 * (q : Int) + (t : Int)) = ((3 * q + t : Nat) : Int) := by rw [show 3 * (q : Int) + (t : Int) = ((3 * q + t : Nat) : Int) from by omega]; exact IntWalk.i64_in _ (by omega)
        obtain ⟨z, hz⟩ : ∃ z : Nat, p - 1 - y = z := ⟨_, rfl⟩
        obtain ⟨z2, hz2⟩ : ∃ z : Nat, 2 * p - 1 - x = z := ⟨_, rfl⟩
        rw [hz] at C yw
        rw [hz2] at C xw
        obtain ⟨r, hr⟩ : ∃ z : Nat, 3 * q + t = z := ⟨_, rfl⟩
        rw [hr] at tw ⊢
        clear IH2 HLh ht hz hz2 hr
        go_enter Tryd.func78, Tryd.ntmps78
        go_wp2_with fail
        refine (CS.out _).mono ?_
        rintro e w' ⟨rfl, rfl⟩
        go_wp2_with fail
        refine C.out.mono ?_
        rintro e w' ⟨rfl, rfl⟩
        go_wp2
        go_ret
        exact ⟨by first | rfl | exact ret_int (by omega), rfl⟩

set_option maxHeartbeats 2000000 in
set_option maxRecDepth 100000 in
theorem l08Index_any (c n x y : Nat) (w : World) (hc : c < 4) (hn : n ≤ 4) (hx : x < 2 ^ n) (hy : y < 2 ^ n) : Calls Tryd.prog 65 #[.int .i64 (c : Int), .int .i64 (n : Int), .int .i64 (x : Int), .int .i64 (y : Int)] w (fun e w' => e = .returned (.int .i64 (ixS c n x y)) ∧ w = w') := by
  have CS := Lib.hid (fun W => l08Side_any (n : Int) W (by omega) (by omega))
  rw [sd_nat] at CS
  have h16 := pow_le16 hn
  have h1 : 1 ≤ 2 ^ n := Nat.one_le_two_pow
  have CTn := Lib.hid (l08Turns_any n x y w hn hx hy)
  have HE : Hid (ixS c n x y = if c = 0 then (y : Int) * ((2 ^ n : Nat) : Int) + x else if c = 1 then (if y % 2 = 1 then (y : Int) * ((2 ^ n : Nat) : Int) + ((2 ^ n : Nat) : Int) - 1 - x else (y : Int) * ((2 ^ n : Nat) : Int) + x) else if c = 2 then btS x y n else ((tnS n x y : Nat) : Int)) := by
    show _ = _
    unfold ixS
    rw [Int.natCast_pow]
    rfl
  have HP : Hid (∀ k : Nat, k < 4 → bits .and .i64 ((x : Nat) / 2 ^ k) 1 = ((pb x k : Nat) : Int) ∧ bits .and .i64 ((y : Nat) / 2 ^ k) 1 = ((pb y k : Nat) : Int)) := fun k hk => ⟨pb_eq x (by omega) k hk, pb_eq y (by omega) k hk⟩
  obtain ⟨p, hp⟩ : ∃ p, 2 ^ n = p := ⟨_, rfl⟩
  rw [hp] at CS HE h16 h1 hx hy
  obtain ⟨v, hv⟩ : ∃ v, ixS c n x y = v := ⟨_, rfl⟩
  rw [hv] at HE ⊢
  obtain ⟨t, ht⟩ : ∃ t, ((tnS n x y : Nat) : Int) = t := ⟨_, rfl⟩
  rw [ht] at HE CTn
  obtain ⟨m, hm⟩ : ∃ m, y * p = m := ⟨_, rfl⟩
  have km : (y : Int) * (p : Int) = (m : Int) := by rw [← hm]; exact (Int.natCast_mul y p).symm
  have hm256 : m ≤ 256 := by rw [← hm]; exact Nat.mul_le_mul (show y ≤ 16 by omega) (show p ≤ 16 by omega)
  rw [km] at HE
  have mw : IntKind.i64.wrap ((y : Int) * (p : Int)) = (m : Int) := by rw [km]; exact IntWalk.i64_in _ (by omega)
  obtain ⟨ci, hci⟩ : ∃ i : Int, (c : Int) = i := ⟨_, rfl⟩
  rw [hci]
  have x16 : (x : Int) < 16 := by omega
  have p16 : (p : Int) ≤ 16 := by omega
  have x0 : (0 : Int) ≤ (x : Int) := by omega
  clear hv ht hm km hp
  by_cases c0 : c = 0
  · subst c0
    obtain rfl : ci = 0 := by omega
    have HV : Hid ((m : Int) + (x : Int) = v) := HE.out.symm
    clear HE CTn HP hci hc
    go_enter Tryd.func65, Tryd.ntmps65
    go_wp2_with fail
    refine (CS.out _).mono ?_
    rintro e w' ⟨rfl, rfl⟩
    go_wp2
    go_ret
    exact ⟨ret_int HV.out, rfl⟩
  · by_cases c1 : c = 1
    · subst c1
      obtain rfl : ci = 1 := by omega
      by_cases hy1 : y % 2 = 1
      · have HV : Hid ((m : Int) + (p : Int) - 1 - (x : Int) = v) := by show _ = _; rw [HE.out, if_neg c0, if_pos rfl, if_pos hy1]
        have ky : (y : Int) % 2 = 1 := by omega
        have ky2 : Int.tmod (y : Int) 2 = 1 := by rw [Int.tmod_eq_emod_of_nonneg (by omega)]; exact ky
        clear HE CTn HP hci hc c0
        go_enter Tryd.func65, Tryd.ntmps65
        go_wp2_with fail
        refine (CS.out _).mono ?_
        rintro e w' ⟨rfl, rfl⟩
        go_wp2
        go_ret
        exact ⟨ret_int HV.out, rfl⟩
      · have HV : Hid ((m : Int) + (x : Int) = v) := by show _ = _; rw [HE.out, if_neg c0, if_pos rfl, if_neg hy1]
        have ky : ¬ (y : Int) % 2 = 1 := by omega
        have ky2 : ¬ Int.tmod (y : Int) 2 = 1 := by rw [Int.tmod_eq_emod_of_nonneg (by omega)]; exact ky
        clear HE CTn HP hci hc c0
        go_enter Tryd.func65, Tryd.ntmps65
        go_wp2_with fail
        refine (CS.out _).mono ?_
        rintro e w' ⟨rfl, rfl⟩
        go_wp2
        go_ret
        exact ⟨ret_int HV.out, rfl⟩
    · by_cases c2 : c = 2
      · subst c2
        obtain rfl : ci = 2 := by omega
        have HV : Hid (btS x y n = v) := by show _ = _; rw [HE.out, if_neg c0, if_neg c1, if_pos rfl]
        have HT : Hid (∀ k : Nat, btS x y (k + 1) = bits .or .i64 (btS x y k) (bits .or .i64 (wrap64 (((pb x k : Nat) : Int) * 2 ^ (2 * k))) (wrap64 (((pb y k : Nat) : Int) * 2 ^ (2 * k + 1))))) := fun _ => rfl
        clear HE CTn hci hc c0 c1
        go_enter Tryd.func65, Tryd.ntmps65
        go_wp2_with fail
        refine (CS.out _).mono ?_
        rintro e w' ⟨rfl, rfl⟩
        go_wp2_with fail
        go_loopw [10, 11] (fun nv iv wr => ∃ k : Nat, k ≤ n ∧ iv = .int .i64 (k : Int) ∧ nv = .int .i64 (btS x y k) ∧ w = wr) (fun _ iv _ => n - (intOf iv).toNat)
        case atStart => exact ⟨0, Nat.zero_le _, rfl, rfl, rfl⟩
        case round =>
          obtain ⟨k, hk, rfl, rfl, rfl⟩ := hrel
          by_cases hlt : k < n
          · have k0 : (0 : Int) ≤ (k : Int) := by omega
            have k2 : (k : Int) < (n : Int) := by omega
            obtain ⟨e1, e2⟩ := HP.out k (by omega)
            have k3 : IntKind.i64.wrap (2 * (k : Int)) = 2 * k := IntWalk.i64_in _ (by omega)
            have k4 : IntKind.i64.wrap (2 * (k : Int) + 1) = 2 * k + 1 := IntWalk.i64_in _ (by omega)
            have HT2 := Lib.hid (HT.out k)
            have E1 := Lib.hid e1
            have E2 := Lib.hid e2
            clear e1 e2 HV HP HT mw
            go_wp2
            go_roundw
            case rel => exact ⟨k + 1, by omega, by go_num, by rw [HT2.out, E1.out, E2.out], (by trivial)⟩
            case measure => simp [intOf]; omega
          · obtain rfl : k = n := by omega
            go_wp2
            go_ret
            exact ⟨ret_int HV.out, rfl⟩
      · have HV : Hid (t = v) := by show _ = _; rw [HE.out, if_neg c0, if_neg c1, if_neg c2]
        have k0 : ¬ ci = 0 := by omega
        have k1 : ¬ ci = 1 := by omega
        have k2 : ¬ ci = 2 := by omega
        clear HE HP hci hc c0 c1 c2 mw
        go_enter Tryd.func65, Tryd.ntmps65
        go_wp2_with fail
        refine (CS.out _).mono ?_
        rintro e w' ⟨rfl, rfl⟩
        go_wp2_with fail
        refine CTn.out.mono ?_
        rintro e w' ⟨rfl, rfl⟩
        go_wp2
        go_ret
        exact ⟨ret_int HV.out, rfl⟩

end Go.Proofs.YthblhibkbcmbaaaDoor

/- Contracts of single functions, and plain lemmas, on which the exact laws of this seat rest; each holds under the conditions that it states. -/
namespace Go.Proofs.YthblhibkbcmbaaaDoor
set_option linter.unusedVariables false
set_option linter.unusedSimpArgs false
open Go.RowKit
attribute [local go_sem] Oper.semAt_some

/-! ### all spots in the order of a curve -/
def cvL (c n : Nat) : Nat → List (Int × Int)
  | 0 => List.replicate (2 ^ n * 2 ^ n) (0, 0)
  | k + 1 => (cvL c n k).set (ixS c n (k % 2 ^ n) (k / 2 ^ n)).toNat (((k % 2 ^ n : Nat) : Int), ((k / 2 ^ n : Nat) : Int))
theorem cvL_len (c n : Nat) : ∀ k, (cvL c n k).length = 2 ^ n * 2 ^ n
  | 0 => by simp [cvL]
  | k + 1 => by simp only [cvL, List.length_set]; exact cvL_len c n k
theorem cvL_step (c n x y : Nat) (hx : x < 2 ^ n) : cvL c n (y * 2 ^ n + x + 1) = (cvL c n (y * 2 ^ n + x)).set (ixS c n x y).toNat ((x : Int), (y : Int)) := by
  have d1 : (y * 2 ^ n + x) % 2 ^ n = x := by rw [Nat.mul_comm, Nat.mul_add_mod, Nat.mod_eq_of_lt hx]
  have d2 : (y * 2 ^ n + x) / 2 ^ n = y := by rw [Nat.mul_comm, Nat.mul_add_div (by omega), Nat.div_eq_of_lt hx, Nat.add_zero]
  show (cvL c n (y * 2 ^ n + x)).set _ _ = _
  rw [d1, d2]
def cvF (c n : Nat) : List (Int × Int) := cvL c n (2 ^ n * 2 ^ n)
theorem cvF_len (c n : Nat) : (cvF c n).length = 2 ^ n * 2 ^ n := cvL_len c n _
theorem flat2_zero (n : Nat) : (madeCells #[.int .i64 0, .int .i64 0] (n * 2)).toList = flat2 (List.replicate n (0, 0)) := by
  rw [part2_zero [] n]
  unfold part2 flat2
  rw [List.length_replicate]
  apply List.map_congr_left
  intro j hj
  have hj2 : j / 2 < n := by have := List.mem_range.1 hj; omega
  rw [if_neg (Nat.not_lt_zero _)]
  unfold spotC
  have : (List.replicate n ((0 : Int), (0 : Int))).getD (j / 2) (0, 0) = (0, 0) := by
    rw [List.getD_eq_getElem?_getD, List.getElem?_replicate, if_pos hj2]; rfl
  rw [this]
  split <;> rfl
theorem flat2_set (L : List (Int × Int)) (i : Nat) (x y : Int) (hi : i < L.length) : ((flat2 L).set (i * 2) (.int .i64 x)).set (i * 2 + 1) (.int .i64 y) = flat2 (L.set i (x, y)) := by
  apply List.ext_getElem?
  intro j
  rw [List.getElem?_set, List.getElem?_set]
  simp only [List.length_set, flat2_len]
  by_cases hj : j < L.length * 2
  · rw [flat2_at L j hj, flat2_at (L.set i (x, y)) j (by rw [List.length_set]; exact hj)]
    unfold spotC
    rw [List.getD_eq_getElem?_getD, List.getD_eq_getElem?_getD, List.getElem?_set]
    by_cases e : i = j / 2
    · subst e
      rw [if_pos rfl, if_pos hi]
      by_cases h0 : j % 2 = 0
      · rw [if_neg (by omega), if_pos (by omega), if_pos (by omega), if_pos h0]; rfl
      · rw [if_pos (by omega), if_pos (by omega), if_neg h0]; rfl
    · rw [if_neg e, if_neg (by omega), if_neg (by omega)]
  · rw [if_neg (by omega), if_neg (by omega), List.getElem?_eq_none (by rw [flat2_len]; omega), List.getElem?_eq_none (by rw [flat2_len, List.length_set]; omega)]

/-- a row of spots that was made -/
def TookSpots (w : World) (L : List (Int × Int)) (e : Ending) (w' : World) : Prop := ∃ g cap, e = .returned (.slice (some ⟨g, 0, none⟩) L.length cap) ∧ OwnS w' w.heap.size (.slice (some ⟨g, 0, none⟩) L.length cap) L ∧ Below w.heap.size w w'

set_option maxHeartbeats 2000000 in
set_option maxRecDepth 100000 in
theorem l08Spots_any (c n : Nat) (w : World) (hc : c < 4) (hn : n ≤ 4) : Calls Tryd.prog 42 #[.int .i64 (c : Int), .int .i64 (n : Int)] w (TookSpots w (cvF c n)) := by
  obtain ⟨i0, hi, hz0, hz1, hz2⟩ := info_parts infoSp
  have CS := Lib.hid (fun W => l08Side_any (n : Int) W (by omega) (by omega))
  rw [sd_nat] at CS
  have h16 := pow_le16 hn
  have h1 : 1 ≤ 2 ^ n := Nat.one_le_two_pow
  have CX : Hid (∀ x y, x < 2 ^ n → y < 2 ^ n → ∃ j : Nat, j < 2 ^ n * 2 ^ n ∧ (ixS c n x y).toNat = j ∧ ∀ W, Calls Tryd.prog 65 #[.int .i64 (c : Int), .int .i64 (n : Int), .int .i64 (x : Int), .int .i64 (y : Int)] W (fun e w' => e = .returned (.int .i64 (j : Int)) ∧ W = w')) := fun x y hx hy => by
    have hb := ixS_lt c hc n (by omega) x hx y hy
    obtain ⟨q, hq⟩ : ∃ q, 2 ^ n * 2 ^ n = q := ⟨_, rfl⟩
    have hq2 : (2 : Int) ^ n * 2 ^ n = (q : Int) := by rw [← hq]; push_cast; rfl
    rw [hq2] at hb
    refine ⟨(ixS c n x y).toNat, by omega, rfl, fun W => ?_⟩
    have e : ((ixS c n x y).toNat : Int) = ixS c n x y := by omega
    rw [e]
    exact l08Index_any c n x y W hc hn hx hy
  have HSt : Hid (∀ x y, x < 2 ^ n → cvL c n (y * 2 ^ n + x + 1) = (cvL c n (y * 2 ^ n + x)).set (ixS c n x y).toNat ((x : Int), (y : Int))) := fun x y hx => cvL_step c n x y hx
  have HLn := Lib.hid (cvL_len c n)
  have H0 : Hid (cvL c n 0 = List.replicate (2 ^ n * 2 ^ n) (0, 0)) := rfl
  have HF : Hid (cvF c n = cvL c n (2 ^ n * 2 ^ n)) := rfl
  obtain ⟨f, hf⟩ : ∃ f, cvL c n = f := ⟨_, rfl⟩
  rw [hf] at HSt HLn H0 HF
  rw [HF.out]
  obtain ⟨p, hp⟩ : ∃ p, 2 ^ n = p := ⟨_, rfl⟩
  rw [hp] at CS h16 h1 CX HSt HLn H0 HF ⊢
  obtain ⟨N, hN⟩ : ∃ N, p * p = N := ⟨_, rfl⟩
  have hN256 : N ≤ 256 := by rw [← hN]; exact Nat.mul_le_mul h16 h16
  have hcN : (p : Int) * (p : Int) = (N : Int) := by rw [← hN]; exact (Int.natCast_mul p p).symm
  have mw : IntKind.i64.wrap ((p : Int) * (p : Int)) = (N : Int) := by rw [hcN]; exact IntWalk.i64_in _ (by omega)
  have HNp := Lib.hid hN
  rw [hN] at CX HLn H0 HF ⊢
  have HOwn : Hid (∀ (W : World) (k : Nat), W.ownsRow w.heap.size 76 2 (.slice (some ⟨w.heap.size, 0, none⟩) N N) N (flat2 (f k)) → OwnS W w.heap.size (.slice (some ⟨w.heap.size, 0, none⟩) N N) (f k)) := fun W k h => by
    show OwnS _ _ _ _
    unfold OwnS
    rw [HLn.out k]
    exact h
  have HLf := Lib.hid (HLn.out N)
  unfold TookSpots
  rw [HLf.out]
  clear hf hp hN hcN HF
  go_enter Tryd.func42, Tryd.ntmps42
  go_wp2_with fail
  refine (CS.out _).mono ?_
  rintro e w' ⟨rfl, rfl⟩
  go_wp2_with (at_make; refine wpList_make_full _ rfl _ _ 71 rfl w.heap.size 76 i0 (.agg #[.int .i64 0, .int .i64 0]) 2 Tryd.underlying71 hi hz0 hz1 _ _ _ _ N rfl rfl rfl rfl ?c1 ?c2 (Nat.le_refl _) ?_)
  case c1 => rw [hz2]; omega
  case c2 => unfold maxLen; omega
  intro w1 hown hg
  rw [flat2_zero N, ← H0.out] at hown
  have hbel : Below w.heap.size w w1 := (Below.refl _ _).grown hg (Nat.le_refl _) (fun k h => by cases h)
  have HO := Lib.hid hown
  have HB := Lib.hid hbel
  clear hg hown hbel
  go_wp2
  go_loopw [7] (fun yv wr => ∃ y : Nat, y ≤ p ∧ yv = .int .i64 (y : Int) ∧ Hid (wr.ownsRow w.heap.size 76 2 (.slice (some ⟨w.heap.size, 0, none⟩) N N) N (flat2 (f (y * p)))) ∧ Hid (Below w.heap.size w wr)) (fun yv _ => p - (intOf yv).toNat)
  case atStart => exact ⟨0, Nat.zero_le _, rfl, by rw [Nat.zero_mul]; exact HO.out, HB.out⟩
  case round =>
    clear HO HB
    obtain ⟨y, hy, rfl, HO, HB⟩ := hrel
    by_cases hlt : y < p
    · have kyn : (y : Int) < (p : Int) := by omega
      have hyp : (y + 1) * p = y * p + p := by rw [Nat.add_mul, Nat.one_mul]
      go_wp2
      go_loopw [8] (fun xv wr => ∃ x : Nat, x ≤ p ∧ xv = .int .i64 (x : Int) ∧ Hid (wr.ownsRow w.heap.size 76 2 (.slice (some ⟨w.heap.size, 0, none⟩) N N) N (flat2 (f (y * p + x)))) ∧ Hid (Below w.heap.size w wr)) (fun xv _ => p - (intOf xv).toNat)
      case atStart => exact ⟨0, Nat.zero_le _, rfl, HO.out, HB.out⟩
      case round =>
        clear HO HB
        obtain ⟨x, hx, rfl, HO, HB⟩ := hrel
        by_cases hlt2 : x < p
        · have kxn : (x : Int) < (p : Int) := by omega
          obtain ⟨j, hj, hji, C⟩ := CX.out x y hlt2 hlt
          have hst := HSt.out x y hlt2
          rw [hji] at hst
          have hl := HLn.out (y * p + x)
          obtain ⟨L, hL⟩ : ∃ L, f (y * p + x) = L := ⟨_, rfl⟩
          have HO1 := Lib.hid HO.out
          rw [hL] at hst hl HO1
          have hfl := flat2_set L j (x : Int) (y : Int) (by omega)
          have hq1 := (HO1.out.stored (j * 2) (.int .i64 (x : Int))).1
          have hf0 := HO1.out.frozenAt (j * 2)
          have ho0 := (HO1.out.cellAt (j * 2) (by omega)).trans (flat2_at L (j * 2) (by omega))
          have hf1 := hq1.frozenAt (j * 2 + 1)
          have he1 : ((flat2 L).set (j * 2) (.int .i64 (x : Int)))[j * 2 + 1]? = some (.int .i64 (spotC L (j * 2 + 1))) := by rw [List.getElem?_set_ne (by omega)]; exact flat2_at L (j * 2 + 1) (by omega)
          have ho1 := (hq1.cellAt (j * 2 + 1) (by omega)).trans he1
          have hq2 := (hq1.stored (j * 2 + 1) (.int .i64 (y : Int))).1
          rw [hfl, ← hst] at hq2
          have HS := Lib.hid hq2
          have C2 := Lib.hid C
          have kj : (j : Int) < (N : Int) := by omega
          have kj0 : (0 : Int) ≤ (j : Int) := by omega
          have hgs := (HO1.out.lt w.heap.size rfl).2
          clear hq1 hq2 hfl hst hl hL hji HO C he1
          go_wp2_with fail
          refine (C2.out _).mono ?_
          rintro e w' ⟨rfl, rfl⟩
          go_wp2
          go_roundw
          case rel => exact ⟨x + 1, by omega, by go_num, HS.out, (HB.out.setCell (Nat.le_refl _) _).setCell (Nat.le_refl _) _⟩
          case measure => simp [intOf]; omega
        · obtain rfl : x = p := by omega
          rw [← hyp] at HO
          go_wp2
          go_roundw
          case rel => exact ⟨y + 1, by omega, by go_num, HO.out, HB.out⟩
          case measure => simp [intOf]; omega
    · obtain rfl : y = p := by omega
      rw [HNp.out] at HO
      have HO2 := Lib.hid (HOwn.out _ _ HO.out)
      clear HO
      go_wp2
      go_ret
      exact ⟨_, _, rfl, HO2.out, HB.out⟩
end Go.Proofs.YthblhibkbcmbaaaDoor
