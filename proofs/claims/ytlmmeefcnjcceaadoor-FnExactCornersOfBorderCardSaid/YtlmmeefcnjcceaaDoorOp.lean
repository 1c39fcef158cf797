/- Contracts of single functions, and plain lemmas, on which the exact laws of this seat rest; each holds under the conditions that it states. -/
import Derived.Test.YtlmmeefcnjcceaaDoorOk
namespace Go.Proofs.YtlmmeefcnjcceaaDoor
set_option linter.unusedVariables false
set_option linter.unusedSimpArgs false
open Go.RowKit Go.Maps

/-- a number and whether there is one -/
def SaysNB (n : Int) (ok : Bool) (w : World) (e : Ending) (w' : World) : Prop := e = .returned (.tuple #[.int .i64 n, .bool ok]) ∧ Below w.heap.size w w'

/-- the area of the first k steps -/
def sgK (X : Int) (s : ByteArray) : Nat → Int
  | 0 => 0
  | k + 1 => sgK X s k + px X s k * dY (wy s k)
theorem mul_dY (x d : Int) : x * dY d = if d = 1 then x else if d = 3 then -x else 0 := by
  unfold dY
  split
  · omega
  · split <;> omega
theorem sgK_range {X Y : Int} {s : ByteArray} (hg : Good X Y s s.size) : ∀ k : Nat, k ≤ s.size → -(16 * (k : Int)) ≤ sgK X s k ∧ sgK X s k ≤ 16 * (k : Int)
  | 0, _ => by simp [sgK]
  | k + 1, h => by
    have ih := sgK_range hg k (by omega)
    have hc := (hg k (by omega)).2.1
    unfold corn at hc
    simp only [sgK]
    rw [mul_dY]
    split
    · omega
    · split <;> omega
noncomputable def sgV (X Y : Int) (s : ByteArray) : Int := if okb X Y s = true then sgK X s s.size else 0

set_option maxHeartbeats 1000000 in
theorem spec_SignedArea (X Y : Int) (s : ByteArray) (w : World) (hs : s.size ≤ 1048576) : Calls Tryd.prog 14 #[.agg #[.int .i64 X, .int .i64 Y, .string s]] w (SaysNB (sgV X Y s) (okb X Y s) w) := by
  have C := Lib.hid (l04Is_any w.heap.size X Y s (w.alloc (.cells #[.int .i64 X, .int .i64 Y, .string s] 30)) hs (heap_alloc_last w _))
  by_cases hok : OKb X Y s
  · have h6 : s.size ≤ 600 := hok.2.1
    have HG := Lib.hid hok.2.2.1
    have HB : Hid (okb X Y s = true) := okb_yes hok
    have HV : Hid (sgV X Y s = sgK X s s.size) := by show _ = _; unfold sgV; rw [if_pos HB.out]
    rw [HB.out] at C
    clear hs hok
    go_enter Tryd.func14, Tryd.ntmps14
    go_wp2_with fail
    refine C.out.mono ?_
    rintro e w1 ⟨rfl, hb⟩
    have HW := Lib.hid ((Joins.below_alloc1 w (.cells #[.int .i64 X, .int .i64 Y, .string s] 30)).trans (hb.mono (by simp)))
    have HA : Hid (BAt w1 w.heap.size X Y s) := BAt.below (heap_alloc_last w _) hb
    have c0 := HA.out.c0
    have c2 := HA.out.c2
    have hl := HA.out.lt
    clear hb
    go_wp2
    go_loop [4, 5, 6] (fun sv xv iv => ∃ k : Nat, k ≤ s.size ∧ iv = .int .i64 k ∧ .int .i64 (px X s k) = xv ∧ .int .i64 (sgK X s k) = sv) (fun _ _ iv => s.size - (intOf iv).toNat)
    case atStart => exact ⟨0, Nat.zero_le _, rfl, rfl, rfl⟩
    case round =>
      obtain ⟨k, hk, rfl, rfl, rfl⟩ := hrel
      by_cases hlt : k < s.size
      · have klt : (k : Int) < (s.size : Int) := by omega
        have CI := Lib.hid (way_at s k hlt)
        have SG := sgK_range HG.out k hk
        have SG1 := sgK_range HG.out (k + 1) hlt
        have PS : Hid (sgK X s (k + 1) = sgK X s k + px X s k * dY (wy s k)) := rfl
        have PX : Hid (px X s (k + 1) = px X s k + dX (wy s k)) := rfl
        have kc := (HG.out k hlt).2.1
        unfold corn at kc
        obtain ⟨kc1, kc2, kc3, kc4⟩ := kc
        have MD := mul_dY (px X s k) (wy s k)
        have rX := dX_range (wy s k)
        have rY := dY_range (wy s k)
        rw [PS.out] at SG1
        obtain ⟨x, hx⟩ : ∃ x, px X s k = x := ⟨_, rfl⟩
        obtain ⟨a, ha⟩ : ∃ x, sgK X s k = x := ⟨_, rfl⟩
        obtain ⟨d, hd⟩ : ∃ x, wy s k = x := ⟨_, rfl⟩
        rw [hx] at PS PX kc1 kc2 MD SG1 ⊢
        rw [ha] at PS SG SG1 ⊢
        rw [hd] at CI PS PX MD rX rY SG1
        obtain ⟨m, hm⟩ : ∃ m, x * dY d = m := ⟨_, rfl⟩
        have hm2 : -16 ≤ m ∧ m ≤ 16 := by
          rw [← hm, MD]
          split
          · omega
          · split <;> omega
        have e1 : IntKind.i64.wrap (x * dY d) = m := by rw [hm]; exact IntWalk.i64_in _ (by omega)
        rw [hm] at PS SG1
        clear hx ha hd MD
        go_wp2_with fail
        refine (CI.out _).mono ?_
        rintro e w' ⟨rfl, rfl⟩
        go_wp2_with fail
        refine (l04Y_any d _).mono ?_
        rintro e w' ⟨rfl, rfl⟩
        go_wp2_with fail
        refine (l04X_any d _).mono ?_
        rintro e w' ⟨rfl, rfl⟩
        go_wp2
        go_round
        case rel => exact ⟨k + 1, by omega, by go_num, by rw [PX.out], by rw [PS.out]⟩
        case measure => simp [intOf]; omega
      · obtain rfl : k = s.size := by omega
        go_wp2
        go_ret2
        exact ⟨by rw [HV.out, HB.out]; rfl, HW.out⟩
  · have HB : Hid (okb X Y s = false) := okb_no hok
    have HV : Hid (sgV X Y s = 0) := by show _ = _; unfold sgV; rw [if_neg (by rw [HB.out]; simp)]
    rw [HB.out] at C
    clear hs hok
    go_enter Tryd.func14, Tryd.ntmps14
    go_wp2_with fail
    refine C.out.mono ?_
    rintro e w1 ⟨rfl, hb⟩
    have HW := Lib.hid ((Joins.below_alloc1 w (.cells #[.int .i64 X, .int .i64 Y, .string s] 30)).trans (hb.mono (by simp)))
    clear hb
    go_wp2_with fail
    go_ret2
    exact ⟨by rw [HV.out, HB.out]; rfl, HW.out⟩

set_option maxHeartbeats 1000000 in
theorem impl_SignedArea (X Y : Int) (s : ByteArray) (w : World) (hs : s.size ≤ 1048576) (hm : Moves w) : Calls Tryd.prog 15 #[.agg #[.int .i64 X, .int .i64 Y, .string s]] w (SaysNB (sgV X Y s) (okb X Y s) w) := by
  have C := Lib.hid (routeOf_any X Y s (w.alloc (.cells #[.int .i64 X, .int .i64 Y, .string s] 30)) hs (hm.below (Joins.below_alloc1 w _)))
  clear hs hm
  go_enter Tryd.func15, Tryd.ntmps15
  go_wp2_with fail
  refine C.out.mono ?_
  rintro e w1 (⟨hok, ao, n, cap, rfl, ho, hb⟩ | ⟨hno, rfl, hb⟩)
  · have h6 : s.size ≤ 600 := hok.2.1
    have h4 : 4 ≤ s.size := hok.1
    have HG := Lib.hid hok.2.2.1
    have HB : Hid (okb X Y s = true) := okb_yes hok
    have HV : Hid (sgV X Y s = sgK X s s.size) := by show _ = _; unfold sgV; rw [if_pos HB.out]
    have HW := Lib.hid ((Joins.below_alloc1 w (.cells #[.int .i64 X, .int .i64 Y, .string s] 30)).trans (hb.mono (by simp)))
    have hs1 := HW.out.size
    rcases Joins.ownsRow_forms ho with ⟨_, h0⟩ | ⟨g, cap', he⟩
    · omega
    cases he
    have HR := Lib.hid (OwnR.at ho)
    clear hb ho hok
    go_wp2
    go_loopw [6, 18] (fun av iv wr => ∃ k : Nat, k ≤ s.size ∧ iv = .int .i64 k ∧ .int .i64 (sgK X s k) = av ∧ Hid (Below w.heap.size w wr) ∧ Hid (Below w1.heap.size w1 wr)) (fun _ iv _ => s.size - (intOf iv).toNat)
    case atStart => exact ⟨0, Nat.zero_le _, rfl, rfl, HW.out, (Below.refl _ _)⟩
    case round =>
      obtain ⟨k, hk, rfl, rfl, HBw, HB1⟩ := hrel
      have hsr := HBw.out.size
      have hsr1 := HB1.out.size
      by_cases hlt : k < s.size
      · have klt : (k : Int) < (s.size : Int) := by omega
        have HRw := HR.out.below HB1.out
        have hgl := HRw.1
        have q0 := (HRw.2 k hlt).1
        have q1 := (HRw.2 k hlt).2.1
        have q2 := (HRw.2 k hlt).2.2
        have SG := sgK_range HG.out k hk
        have PS : Hid (sgK X s (k + 1) = sgK X s k + px X s k * dY (wy s k)) := rfl
        rw [mul_dY] at PS
        have kc := (HG.out k hlt).2.1
        unfold corn at kc
        obtain ⟨kc1, kc2, kc3, kc4⟩ := kc
        obtain ⟨x, hx⟩ : ∃ x, px X s k = x := ⟨_, rfl⟩
        obtain ⟨y, hy⟩ : ∃ x, py Y s k = x := ⟨_, rfl⟩
        obtain ⟨a, ha⟩ : ∃ x, sgK X s k = x := ⟨_, rfl⟩
        obtain ⟨d, hd⟩ : ∃ x, wy s k = x := ⟨_, rfl⟩
        rw [hx] at PS kc1 kc2 q0
        rw [hy] at q1
        rw [ha] at PS SG ⊢
        rw [hd] at PS q2
        have BA := Lib.hid (HBw.out.alloc hsr (.cells #[.int .i64 x, .int .i64 y, .int .i64 d] 67))
        have BA1 := Lib.hid (HB1.out.alloc hsr1 (.cells #[.int .i64 x, .int .i64 y, .int .i64 d] 67))
        clear hx hy ha hd HRw HBw HB1
        by_cases h1 : d = 1
        · have b1 := eqI_yes h1
          rw [if_pos h1] at PS
          clear h1
          go_wp2
          go_roundw
          case rel => exact ⟨k + 1, by omega, by go_num, by rw [PS.out], BA.out, BA1.out⟩
          case measure => simp [intOf]; omega
        · have b1 := eqI_no h1
          rw [if_neg h1] at PS
          by_cases h3 : d = 3
          · have b3 := eqI_yes h3
            rw [if_pos h3] at PS
            clear h1 h3
            go_wp2
            go_roundw
            case rel => exact ⟨k + 1, by omega, by go_num, by rw [PS.out]; exact congrArg _ (by omega), BA.out, BA1.out⟩
            case measure => simp [intOf]; omega
          · have b3 := eqI_no h3
            rw [if_neg h3] at PS
            clear h1 h3
            go_wp2
            go_roundw
            case rel => exact ⟨k + 1, by omega, by go_num, by rw [PS.out, Int.add_zero], BA.out, BA1.out⟩
            case measure => simp [intOf]; omega
      · obtain rfl : k = s.size := by omega
        go_wp2
        go_ret2
        exact ⟨by rw [HV.out, HB.out]; rfl, HBw.out⟩
  · have HW := Lib.hid ((Joins.below_alloc1 w (.cells #[.int .i64 X, .int .i64 Y, .string s] 30)).trans (hb.mono (by simp)))
    have HB : Hid (okb X Y s = false) := okb_no hno
    have HV : Hid (sgV X Y s = 0) := by show _ = _; unfold sgV; rw [if_neg (by rw [HB.out]; simp)]
    clear hb hno
    go_wp2_with fail
    go_ret2
    exact ⟨by rw [HV.out, HB.out]; rfl, HW.out⟩
end Go.Proofs.YtlmmeefcnjcceaaDoor
