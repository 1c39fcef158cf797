/- Contracts of single functions, and plain lemmas, on which the exact laws of this seat rest; each holds under the conditions that it states. -/
import Derived.Test.YtlmmeefcnjcceaaDoorOp
namespace Go.Proofs.YtlmmeefcnjcceaaDoor
set_option linter.unusedVariables false
set_option linter.unusedSimpArgs false
open Go.RowKit Go.Maps

/-- what a turn adds -/
def tuI (t : Int) : Int := if t = 1 then 1 else if t = 3 then -1 else 0
theorem tuI_range (t : Int) : -1 ≤ tuI t ∧ tuI t ≤ 1 := by unfold tuI; split; omega; split <;> omega
def tgK (s : ByteArray) : Nat → Int
  | 0 => 0
  | k + 1 => tgK s k + tuI (trn s k)
theorem tgK_range (s : ByteArray) : ∀ k : Nat, -(k : Int) ≤ tgK s k ∧ tgK s k ≤ (k : Int)
  | 0 => by simp [tgK]
  | k + 1 => by
    have ih := tgK_range s k
    have := tuI_range (trn s k)
    simp only [tgK]
    omega
noncomputable def tgV (X Y : Int) (s : ByteArray) : Int := if okb X Y s = true then tgK s s.size else 0

set_option maxHeartbeats 1000000 in
set_option maxRecDepth 100000 in
theorem l04Turn_any (pb : Nat) (X Y : Int) (s : ByteArray) (k : Nat) (w : World) (hp : BAt w pb X Y s) (hk : k < s.size) (h6 : s.size ≤ 600) (hw : 0 ≤ wy s k) (hw2 : 0 ≤ wy s (prv s k)) :
    Calls Tryd.prog 41 #[.pointer (some ⟨pb, 0, none⟩), .int .i64 k] w fun e w' => e = .returned (.int .i64 (tuI (trn s k))) ∧ Below w.heap.size w w' := by
  have klt : (k : Int) < (s.size : Int) := by omega
  have hpl := prv_lt s k (by omega)
  have CW : Hid (∀ (j : Nat) (hj : j < s.size) (W : World), Calls Tryd.prog 38 #[.int .u8 ((s[j]'hj).toNat : Int)] W fun e w' => e = .returned (.int .i64 (wy s j)) ∧ W = w') := fun j hj W => way_at s j hj W
  have cs2 := hp.c2
  have hlp := hp.lt
  have hpc := prv_cast s k (by omega)
  have hn64 : (s.size : Int) ≤ 600 := by omega
  have HT : Hid (trn s k = (wy s k - wy s (prv s k) + 4) % 4) := rfl
  have r1 := (wy_range s k).2
  have r2 := (wy_range s (prv s k)).2
  have rt := trn_range s k
  obtain ⟨p, hpp⟩ : ∃ p, prv s k = p := ⟨_, rfl⟩
  obtain ⟨t, ht⟩ : ∃ x, trn s k = x := ⟨_, rfl⟩
  rw [hpp] at hpc HT r2 hpl hw2
  rw [ht] at HT rt ⊢
  have e1 : IntKind.i64.wrap ((k : Int) + (s.size : Int)) = (k : Int) + (s.size : Int) := IntWalk.i64_in _ (by omega)
  have e2 : IntKind.i64.wrap ((k : Int) + (s.size : Int) - 1) = (k : Int) + (s.size : Int) - 1 := IntWalk.i64_in _ (by omega)
  have e3 : ((k : Int) + (s.size : Int) - 1).tmod (s.size : Int) = (p : Int) := by rw [Int.tmod_eq_emod_of_nonneg (by omega)]; exact hpc
  have e4 : (p : Int) < (s.size : Int) := by omega
  have e5 : (0 : Int) < (s.size : Int) := by omega
  have e6 : IntKind.i64.wrap (wy s k - wy s p) = wy s k - wy s p := IntWalk.i64_in _ (by omega)
  have e7 : IntKind.i64.wrap (wy s k - wy s p + 4) = wy s k - wy s p + 4 := IntWalk.i64_in _ (by omega)
  have e8 : (wy s k - wy s p + 4).tmod 4 = t := by rw [Int.tmod_eq_emod_of_nonneg (by omega)]; exact HT.out.symm
  clear ht hpc hp HT hpp r1 r2 hw hw2
  go_enter Tryd.func41, Tryd.ntmps41
  go_wp2_with fail
  go_quiet ((go_at_call 38; exact Calls.quiet_of_same ((CW.out _ (by omega) _).mono fun e w' ⟨he, hw⟩ => ⟨he, hw.symm⟩)))
  have HB := Lib.hid (Joins.below_draws w.heap.size w nq)
  obtain ⟨wq, hwq⟩ : ∃ W, w.drewN nq = W := ⟨_, rfl⟩
  rw [hwq] at HB ⊢
  clear e1 e2 e3 e6 e7 e8 hwq cs2
  by_cases h1 : t = 1
  · have b1 := eqI_yes h1
    have HV : Hid (tuI t = 1) := by show _ = _; unfold tuI; rw [if_pos h1]
    clear h1
    go_wp2
    go_ret
    exact ⟨ret_int HV.out.symm, HB.out⟩
  · have b1 := eqI_no h1
    by_cases h3 : t = 3
    · have b3 := eqI_yes h3
      have HV : Hid (tuI t = -1) := by show _ = _; unfold tuI; rw [if_neg h1, if_pos h3]
      clear h1 h3
      go_wp2
      go_ret
      exact ⟨ret_int HV.out.symm, HB.out⟩
    · have b3 := eqI_no h3
      have HV : Hid (tuI t = 0) := by show _ = _; unfold tuI; rw [if_neg h1, if_neg h3]
      clear h1 h3
      go_wp2
      go_ret
      exact ⟨ret_int HV.out.symm, HB.out⟩

set_option maxHeartbeats 1000000 in
set_option maxRecDepth 100000 in
theorem spec_TurningOf (X Y : Int) (s : ByteArray) (w : World) (hs : s.size ≤ 1048576) : Calls Tryd.prog 16 #[.agg #[.int .i64 X, .int .i64 Y, .string s]] w (SaysNB (tgV X Y s) (okb X Y s) w) := by
  have C := Lib.hid (l04Is_any w.heap.size X Y s (w.alloc (.cells #[.int .i64 X, .int .i64 Y, .string s] 30)) hs (heap_alloc_last w _))
  by_cases hok : OKb X Y s
  · have h6 : s.size ≤ 600 := hok.2.1
    have HG := Lib.hid hok.2.2.1
    have HB : Hid (okb X Y s = true) := okb_yes hok
    have HV : Hid (tgV X Y s = tgK s s.size) := by show _ = _; unfold tgV; rw [if_pos HB.out]
    rw [HB.out] at C
    clear hs hok
    go_enter Tryd.func16, Tryd.ntmps16
    go_wp2_with fail
    refine C.out.mono ?_
    rintro e w1 ⟨rfl, hb⟩
    have HW := Lib.hid ((Joins.below_alloc1 w (.cells #[.int .i64 X, .int .i64 Y, .string s] 30)).trans (hb.mono (by simp)))
    have HA : Hid (BAt w1 w.heap.size X Y s) := BAt.below (heap_alloc_last w _) hb
    clear hb
    go_wp2
    go_loopw [4, 5] (fun sv iv wr => ∃ k : Nat, k ≤ s.size ∧ iv = .int .i64 k ∧ .int .i64 (tgK s k) = sv ∧ Hid (Below w.heap.size w wr) ∧ Hid (BAt wr w.heap.size X Y s)) (fun _ iv _ => s.size - (intOf iv).toNat)
    case atStart => exact ⟨0, Nat.zero_le _, rfl, rfl, HW.out, HA.out⟩
    case round =>
      clear HA HW
      obtain ⟨k, hk, rfl, rfl, HBw, HA⟩ := hrel
      have c2 := HA.out.c2
      have hl := HA.out.lt
      have hsz := HBw.out.size
      by_cases hlt : k < s.size
      · have klt : (k : Int) < (s.size : Int) := by omega
        have CT := Lib.hid (l04Turn_any w.heap.size X Y s k wr HA.out hlt h6 (HG.out k hlt).1 (HG.out _ (prv_lt s k (by omega))).1)
        have TG := tgK_range s k
        have PS : Hid (tgK s (k + 1) = tgK s k + tuI (trn s k)) := rfl
        have TU := tuI_range (trn s k)
        obtain ⟨a, ha⟩ : ∃ x, tgK s k = x := ⟨_, rfl⟩
        obtain ⟨t, ht⟩ : ∃ x, tuI (trn s k) = x := ⟨_, rfl⟩
        rw [ha] at PS TG ⊢
        rw [ht] at PS TU CT
        clear ha ht
        go_wp2_with fail
        refine CT.out.mono ?_
        rintro e w' ⟨rfl, hb⟩
        have HB2 := Lib.hid (HBw.out.trans (hb.mono hsz))
        have HA2 := Lib.hid (HA.out.below hb)
        clear hb c2
        go_wp2
        go_roundw
        case rel => exact ⟨k + 1, by omega, by go_num, by rw [PS.out], HB2.out, HA2.out⟩
        case measure => simp [intOf]; omega
      · obtain rfl : k = s.size := by omega
        go_wp2
        go_ret2
        exact ⟨by rw [HV.out, HB.out]; rfl, HBw.out⟩
  · have HB : Hid (okb X Y s = false) := okb_no hok
    have HV : Hid (tgV X Y s = 0) := by show _ = _; unfold tgV; rw [if_neg (by rw [HB.out]; simp)]
    rw [HB.out] at C
    clear hs hok
    go_enter Tryd.func16, Tryd.ntmps16
    go_wp2_with fail
    refine C.out.mono ?_
    rintro e w1 ⟨rfl, hb⟩
    have HW := Lib.hid ((Joins.below_alloc1 w (.cells #[.int .i64 X, .int .i64 Y, .string s] 30)).trans (hb.mono (by simp)))
    clear hb
    go_wp2_with fail
    go_ret2
    exact ⟨by rw [HV.out, HB.out]; rfl, HW.out⟩

set_option maxHeartbeats 1000000 in
set_option maxRecDepth 100000 in
theorem impl_TurningOf (X Y : Int) (s : ByteArray) (w : World) (hs : s.size ≤ 1048576) (hm : Moves w) : Calls Tryd.prog 17 #[.agg #[.int .i64 X, .int .i64 Y, .string s]] w (SaysNB (tgV X Y s) (okb X Y s) w) := by
  have C := Lib.hid (routeOf_any X Y s (w.alloc (.cells #[.int .i64 X, .int .i64 Y, .string s] 30)) hs (hm.below (Joins.below_alloc1 w _)))
  clear hs hm
  go_enter Tryd.func17, Tryd.ntmps17
  go_wp2_with fail
  refine C.out.mono ?_
  rintro e w1 (⟨hok, ao, n, cap, rfl, ho, hb⟩ | ⟨hno, rfl, hb⟩)
  · have h6 : s.size ≤ 600 := hok.2.1
    have h4 : 4 ≤ s.size := hok.1
    have HB : Hid (okb X Y s = true) := okb_yes hok
    have HV : Hid (tgV X Y s = tgK s s.size) := by show _ = _; unfold tgV; rw [if_pos HB.out]
    have HW := Lib.hid ((Joins.below_alloc1 w (.cells #[.int .i64 X, .int .i64 Y, .string s] 30)).trans (hb.mono (by simp)))
    have hs1 := HW.out.size
    rcases Joins.ownsRow_forms ho with ⟨_, h0⟩ | ⟨g, cap', he⟩
    · omega
    cases he
    have CT := Lib.hid (turns_any X Y s g cap w1 (by omega) h6 (OwnR.at ho) (fun j hj => (hok.2.2.1 j hj).1))
    clear hb ho hok
    go_wp2_with fail
    refine CT.out.mono ?_
    rintro e w2 ⟨b, cap2, rfl, ho2, hb2⟩
    have hcl : Hid (∀ k, k < s.size → w2.cell? ⟨b, k, none⟩ = some (.int .i64 (trn s k))) := fun k hk => by
      rw [ho2.cellAt k (by omega), tr_at _ _ _ hk]
    have HB2 := Lib.hid (HW.out.trans (hb2.mono hs1))
    have hbl := (ho2.lt b rfl).2
    clear hb2 ho2
    go_wp2
    go_loop [6, 19] (fun av iv => ∃ k : Nat, k ≤ s.size ∧ iv = .int .i64 k ∧ .int .i64 (tgK s k) = av) (fun _ iv => s.size - (intOf iv).toNat)
    case atStart => exact ⟨0, Nat.zero_le _, rfl, rfl⟩
    case round =>
      obtain ⟨k, hk, rfl, rfl⟩ := hrel
      by_cases hlt : k < s.size
      · have klt : (k : Int) < (s.size : Int) := by omega
        have q0 := hcl.out k hlt
        have TG := tgK_range s k
        have PS : Hid (tgK s (k + 1) = tgK s k + tuI (trn s k)) := rfl
        obtain ⟨a, ha⟩ : ∃ x, tgK s k = x := ⟨_, rfl⟩
        obtain ⟨t, ht⟩ : ∃ x, trn s k = x := ⟨_, rfl⟩
        rw [ha] at PS TG ⊢
        rw [ht] at PS q0
        clear ha ht
        unfold tuI at PS
        by_cases h1 : t = 1
        · have b1 := eqI_yes h1
          rw [if_pos h1] at PS
          clear h1
          go_wp2
          go_round
          case rel => exact ⟨k + 1, by omega, by go_num, by rw [PS.out]⟩
          case measure => simp [intOf]; omega
        · have b1 := eqI_no h1
          rw [if_neg h1] at PS
          by_cases h3 : t = 3
          · have b3 := eqI_yes h3
            rw [if_pos h3] at PS
            clear h1 h3
            go_wp2
            go_round
            case rel => exact ⟨k + 1, by omega, by go_num, by rw [PS.out]; exact congrArg _ (by omega)⟩
            case measure => simp [intOf]; omega
          · have b3 := eqI_no h3
            rw [if_neg h3] at PS
            clear h1 h3
            go_wp2
            go_round
            case rel => exact ⟨k + 1, by omega, by go_num, by rw [PS.out, Int.add_zero]⟩
            case measure => simp [intOf]; omega
      · obtain rfl : k = s.size := by omega
        go_wp2
        go_ret2
        exact ⟨by rw [HV.out, HB.out]; rfl, HB2.out⟩
  · have HW := Lib.hid ((Joins.below_alloc1 w (.cells #[.int .i64 X, .int .i64 Y, .string s] 30)).trans (hb.mono (by simp)))
    have HB : Hid (okb X Y s = false) := okb_no hno
    have HV : Hid (tgV X Y s = 0) := by show _ = _; unfold tgV; rw [if_neg (by rw [HB.out]; simp)]
    clear hb hno
    go_wp2_with fail
    go_ret2
    exact ⟨by rw [HV.out, HB.out]; rfl, HW.out⟩
end Go.Proofs.YtlmmeefcnjcceaaDoor
