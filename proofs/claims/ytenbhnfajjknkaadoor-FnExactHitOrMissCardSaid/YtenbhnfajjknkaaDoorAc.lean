/- Contracts of single functions, and plain lemmas, on which the exact laws of this seat rest; each holds under the conditions that it states. -/
import Derived.Test.YtenbhnfajjknkaaDoorAb
namespace Go.Proofs.YtenbhnfajjknkaaDoor
set_option linter.unusedVariables false
set_option linter.unusedSimpArgs false
open Go.RowKit

theorem okO_eq (x y : Int) : okO (x, y) = (inB x (-4) 4 && inB y (-4) 4) := by simp [okO, inB]

set_option maxHeartbeats 4000000 in
set_option maxRecDepth 100000 in
theorem l03Is_any (pb : Nat) (v : Value) (xs : List (Int × Int)) (w : World) (hp : w.heap[pb]? = some (.cells #[v] 36 (0, 0))) (hN : xs.length ≤ 1048576) (hv : SlS w v xs) :
    Calls Tryd.prog 55 #[.pointer (some ⟨pb, 0, none⟩)] w (SaysB (elB xs) w) := by
  have hc0 := cell_of_one hp
  have hlp := (Array.getElem?_eq_some_iff.1 hp).1
  rcases hv with ⟨ao, cap, rfl, rfl⟩ | ⟨b, cap, rfl, hpos, hb, hcs⟩
  · have HV : Hid (elB [] = false) := rfl
    clear hp
    go_enter Tryd.func55, Tryd.ntmps55
    go_wp2
    refine wp_loop_rounds 1 ?_; rw [rounds_succ]
    go_wp2
    go_ret
    exact ⟨ret_bool HV.out.symm, Below.refl _ _⟩
  · have HBad := Lib.hid (fun i => @elB_bad xs i)
    have HGood := Lib.hid (@elB_good xs)
    have HSt : Hid (∀ i, stepOk xs i = (okO (xs.getD i (0, 0)) && (decide (i = 0) || befB (xs.getD (i - 1) (0, 0)) (xs.getD i (0, 0))))) := fun _ => rfl
    have HC := Lib.hid hcs
    obtain ⟨n, hn⟩ : ∃ n, xs.length = n := ⟨_, rfl⟩
    rw [hn] at HBad HGood HC hpos hN hc0
    obtain ⟨r, hr⟩ : ∃ r, elB xs = r := ⟨_, rfl⟩
    rw [hr] at HBad HGood
    have HP := Lib.hid hp
    rw [hn] at HP
    rw [hr]
    clear hcs hn hr hp
    go_enter Tryd.func55, Tryd.ntmps55
    go_wp2
    go_loopw [4] (fun iv wr => ∃ i : Nat, i ≤ n ∧ iv = .int .i64 i ∧ Hid (∀ j, j < i → stepOk xs j = true) ∧ Hid (Below w.heap.size w wr)) (fun iv _ => n - (intOf iv).toNat)
    case atStart => exact ⟨0, Nat.zero_le _, rfl, fun j h => absurd h (Nat.not_lt_zero j), Below.refl _ _⟩
    case round =>
      obtain ⟨i, hi, rfl, HJ, HB⟩ := hrel
      have hs := HB.out.size
      by_cases hlt : i < n
      · have klt : (i : Int) < (n : Int) := by omega
        have p0 := cell_kept HB.out hc0
        have c0 := cell_kept HB.out (HC.out i hlt).1
        have c1 := cell_kept HB.out (HC.out i hlt).2
        have lb : b < wr.heap.size := by omega
        have lp : pb < wr.heap.size := by omega
        have hst := HSt.out i
        have hbd := HBad.out i hlt
        have hd0 : Hid (0 < i → wr.cell? ⟨b, (i - 1) * 2, none⟩ = some (.int .i64 (xs.getD (i - 1) (0, 0)).1) ∧ wr.cell? ⟨b, (i - 1) * 2 + 1, none⟩ = some (.int .i64 (xs.getD (i - 1) (0, 0)).2)) := fun h => ⟨cell_kept HB.out (HC.out (i - 1) (by omega)).1, cell_kept HB.out (HC.out (i - 1) (by omega)).2⟩
        have HJs : Hid (stepOk xs i = true → ∀ j, j < i + 1 → stepOk xs j = true) := fun h j hj => by
          by_cases e : j = i
          · rw [e]; exact h
          · exact HJ.out j (by omega)
        have HB5 : ∀ x y : Int, Hid (Below w.heap.size w (wr.alloc (.cells #[.int .i64 x, .int .i64 y] 79))) := fun x y => HB.out.alloc hs _
        obtain ⟨st, hse⟩ : ∃ st, stepOk xs i = st := ⟨_, rfl⟩
        rw [hse] at hst hbd HJs
        rw [show xs.getD i (0, 0) = ((xs.getD i (0, 0)).1, (xs.getD i (0, 0)).2) from rfl, show xs.getD (i - 1) (0, 0) = ((xs.getD (i - 1) (0, 0)).1, (xs.getD (i - 1) (0, 0)).2) from rfl, okO_eq] at hst
        obtain ⟨x, hx⟩ : ∃ x, (xs.getD i (0, 0)).1 = x := ⟨_, rfl⟩
        obtain ⟨y, hy⟩ : ∃ y, (xs.getD i (0, 0)).2 = y := ⟨_, rfl⟩
        obtain ⟨x2, hx2⟩ : ∃ x, (xs.getD (i - 1) (0, 0)).1 = x := ⟨_, rfl⟩
        obtain ⟨y2, hy2⟩ : ∃ y, (xs.getD (i - 1) (0, 0)).2 = y := ⟨_, rfl⟩
        rw [hx] at c0 hst
        rw [hy] at c1 hst
        rw [hx2] at hd0 hst
        rw [hy2] at hd0 hst
        have HST := Lib.hid hst
        have HBD := Lib.hid hbd
        have HBw := HB5 x y
        have C1 := Lib.hid (fun W => l00In_any x (-4) 4 W)
        have C2 := Lib.hid (fun W => l00In_any y (-4) 4 W)
        clear hx hy hx2 hy2 hst hbd hse HB5
        cases hix : inB x (-4) 4 with
        | false =>
          rw [hix] at C1 HST
          have HR := Lib.hid (HBD.out (by rw [HST.out]; rfl))
          clear hix
          have Q1 : Hid (∀ (W : World) (k : Nat), Calls Tryd.prog 85 #[.int .i64 x, .int .i64 (-4), .int .i64 4] (W.drewN k) fun e w'' => e = .returned (.bool false) ∧ ∃ m, w'' = W.drewN m) := fun W k => Calls.quiet_of_same ((C1.out _).mono fun e w' ⟨he, hw⟩ => ⟨he, hw.symm⟩)
          go_wp2_with fail
          go_quiet ((go_at_call 85; exact Q1.out _ _))
          go_wp2
          go_ret
          exact ⟨ret_bool HR.out.symm, HBw.out.trans (Joins.below_draws w.heap.size _ _)⟩
        | true =>
          rw [hix] at C1 HST
          clear hix
          cases hiy : inB y (-4) 4 with
          | false =>
            rw [hiy] at C2 HST
            have HR := Lib.hid (HBD.out (by rw [HST.out]; rfl))
            clear hiy
            have Q1 : Hid (∀ (W : World) (k : Nat), Calls Tryd.prog 85 #[.int .i64 x, .int .i64 (-4), .int .i64 4] (W.drewN k) fun e w'' => e = .returned (.bool true) ∧ ∃ m, w'' = W.drewN m) := fun W k => Calls.quiet_of_same ((C1.out _).mono fun e w' ⟨he, hw⟩ => ⟨he, hw.symm⟩)
            have Q2 : Hid (∀ (W : World) (k : Nat), Calls Tryd.prog 85 #[.int .i64 y, .int .i64 (-4), .int .i64 4] (W.drewN k) fun e w'' => e = .returned (.bool false) ∧ ∃ m, w'' = W.drewN m) := fun W k => Calls.quiet_of_same ((C2.out _).mono fun e w' ⟨he, hw⟩ => ⟨he, hw.symm⟩)
            go_wp2_with fail
            go_quiet ((go_at_call 85; first | with_reducible exact Q1.out _ _ | with_reducible exact Q2.out _ _))
            go_wp2
            go_ret
            exact ⟨ret_bool HR.out.symm, HBw.out.trans (Joins.below_draws w.heap.size _ _)⟩
          | true =>
            rw [hiy] at C2 HST
            clear hiy
            by_cases hi0 : i = 0
            · subst hi0
              have HN := Lib.hid (HJs.out (by rw [HST.out]; rfl))
              have Q1 : Hid (∀ (W : World) (k : Nat), Calls Tryd.prog 85 #[.int .i64 x, .int .i64 (-4), .int .i64 4] (W.drewN k) fun e w'' => e = .returned (.bool true) ∧ ∃ m, w'' = W.drewN m) := fun W k => Calls.quiet_of_same ((C1.out _).mono fun e w' ⟨he, hw⟩ => ⟨he, hw.symm⟩)
              have Q2 : Hid (∀ (W : World) (k : Nat), Calls Tryd.prog 85 #[.int .i64 y, .int .i64 (-4), .int .i64 4] (W.drewN k) fun e w'' => e = .returned (.bool true) ∧ ∃ m, w'' = W.drewN m) := fun W k => Calls.quiet_of_same ((C2.out _).mono fun e w' ⟨he, hw⟩ => ⟨he, hw.symm⟩)
              have kz : decide ((0 : Int) < (0 : Int)) = false := rfl
              go_wp2_with fail
              go_quiet ((go_at_call 85; first | with_reducible exact Q1.out _ _ | with_reducible exact Q2.out _ _))
              go_wp2
              go_roundw
              case rel => exact ⟨1, by omega, by go_num, HN.out, HBw.out.trans (Joins.below_draws w.heap.size _ _)⟩
              case measure => simp [intOf]; omega
            · have ki0 : (0 : Int) < (i : Int) := by omega
              have ki1 : 0 < i := by omega
              have ki2 : decide (0 < i) = true := decide_eq_true ki1
              have d0 := (hd0.out (by omega)).1
              have d1 := (hd0.out (by omega)).2
              rw [decide_eq_false hi0, Bool.false_or, Bool.true_and, Bool.true_and] at HST
              have CB := Lib.hid (fun W => l03Before_any x2 y2 x y W)
              have e1 : IntKind.i64.wrap ((i : Int) - 1) = ((i - 1 : Nat) : Int) := by rw [IntWalk.i64_in _ (by omega)]; omega
              have e2 : ((i - 1 : Nat) : Int) < (n : Int) := by omega
              have HX : Hid (∀ W, Below ((wr.alloc (.cells #[.int .i64 x, .int .i64 y] 79))).heap.size (wr.alloc (.cells #[.int .i64 x, .int .i64 y] 79)) W → W.cell? ⟨wr.heap.size, 0, none⟩ = some (.int .i64 x) ∧ W.cell? ⟨wr.heap.size, 1, none⟩ = some (.int .i64 y) ∧ W.cell? ⟨b, (i - 1) * 2, none⟩ = some (.int .i64 x2) ∧ W.cell? ⟨b, (i - 1) * 2 + 1, none⟩ = some (.int .i64 y2) ∧ W.cell? ⟨pb, 0, none⟩ = some (.slice (some ⟨b, 0, none⟩) n cap)) := fun W hb => by
                have ha := heap_alloc_last wr (.cells #[.int .i64 x, .int .i64 y] 79)
                have hl := Joins.below_alloc1 wr (.cells #[.int .i64 x, .int .i64 y] 79)
                exact ⟨cell_kept hb (by rw [Joins.cell_of_block ha 0]; rfl), cell_kept hb (by rw [Joins.cell_of_block ha 1]; rfl), cell_kept hb (cell_kept hl d0), cell_kept hb (cell_kept hl d1), cell_kept hb (cell_kept hl p0)⟩
              cases hbf : befB (x2, y2) (x, y) with
              | true =>
                rw [hbf] at CB HST
                have HN := Lib.hid (HJs.out HST.out)
                clear hbf hd0 HB HSt HC HJ HJs HBad HBD HP
                go_wp2_with fail
                go_region_held3 (fun w' => w'.cell? ⟨wr.heap.size, 0, none⟩ = some (.int .i64 x) ∧ w'.cell? ⟨wr.heap.size, 1, none⟩ = some (.int .i64 y) ∧ w'.cell? ⟨b, (i - 1) * 2, none⟩ = some (.int .i64 x2) ∧ w'.cell? ⟨b, (i - 1) * 2 + 1, none⟩ = some (.int .i64 y2) ∧ w'.cell? ⟨pb, 0, none⟩ = some (.slice (some ⟨b, 0, none⟩) n cap))
                  (first | exact HX.out _ (Below.refl _ _) | exact HX.out _ (Below.refl _ _).drew | exact HX.out _ ((Below.refl _ _).drew.trans hb7))
                  (first | (go_at_call 85; with_reducible refine (C1.out _).mono ?_; rintro e w' ⟨rfl, rfl⟩) | (go_at_call 85; with_reducible refine (C2.out _).mono ?_; rintro e w' ⟨rfl, rfl⟩) | (go_at_call 86; refine (CB.out _).mono ?_; rintro e w7 ⟨rfl, hb7⟩))
                have HB7 : Hid (Below w.heap.size w w7) := HBw.out.trans (((Below.refl _ _).drew.trans hb7).mono HBw.out.size)
                clear hb7 e1
                go_wp2
                go_roundw
                case rel => exact ⟨i + 1, by omega, by go_num, HN.out, HB7.out⟩
                case measure => simp [intOf]; omega
              | false =>
                rw [hbf] at CB HST
                have HR := Lib.hid (HBD.out HST.out)
                clear hbf hd0 HB HSt HC HJ HJs HBad HBD HP
                go_wp2_with fail
                go_region_held3 (fun w' => w'.cell? ⟨wr.heap.size, 0, none⟩ = some (.int .i64 x) ∧ w'.cell? ⟨wr.heap.size, 1, none⟩ = some (.int .i64 y) ∧ w'.cell? ⟨b, (i - 1) * 2, none⟩ = some (.int .i64 x2) ∧ w'.cell? ⟨b, (i - 1) * 2 + 1, none⟩ = some (.int .i64 y2) ∧ w'.cell? ⟨pb, 0, none⟩ = some (.slice (some ⟨b, 0, none⟩) n cap))
                  (first | exact HX.out _ (Below.refl _ _) | exact HX.out _ (Below.refl _ _).drew | exact HX.out _ ((Below.refl _ _).drew.trans hb7))
                  (first | (go_at_call 85; with_reducible refine (C1.out _).mono ?_; rintro e w' ⟨rfl, rfl⟩) | (go_at_call 85; with_reducible refine (C2.out _).mono ?_; rintro e w' ⟨rfl, rfl⟩) | (go_at_call 86; refine (CB.out _).mono ?_; rintro e w7 ⟨rfl, hb7⟩))
                have HB7 : Hid (Below w.heap.size w w7) := HBw.out.trans (((Below.refl _ _).drew.trans hb7).mono HBw.out.size)
                clear hb7 e1
                go_wp2
                go_ret
                exact ⟨ret_bool HR.out.symm, HB7.out⟩
      · obtain rfl : i = n := by omega
        have HR := Lib.hid (HGood.out HJ.out)
        have k1 : (1 : Int) ≤ (i : Int) := by omega
        by_cases h50 : i ≤ 50
        · have k2 : (i : Int) ≤ 50 := by omega
          have HR2 : Hid (r = true) := by show _ = _; rw [HR.out, decide_eq_true (by omega), decide_eq_true h50]; rfl
          go_wp2
          go_ret
          exact ⟨ret_bool HR2.out.symm, HB.out⟩
        · have k2 : decide ((i : Int) ≤ 50) = false := decide_eq_false (by omega)
          have HR2 : Hid (r = false) := by show _ = _; rw [HR.out, decide_eq_false h50, Bool.and_false]
          go_wp2
          go_ret
          exact ⟨ret_bool HR2.out.symm, HB.out⟩
end Go.Proofs.YtenbhnfajjknkaaDoor
