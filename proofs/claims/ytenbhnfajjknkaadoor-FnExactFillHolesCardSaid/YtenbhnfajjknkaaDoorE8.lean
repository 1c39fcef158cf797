/- Contracts of single functions, and plain lemmas, on which the exact laws of this seat rest; each holds under the conditions that it states. -/
import Derived.Test.YtenbhnfajjknkaaDoorW2
import Derived.Test.YtenbhnfajjknkaaDoorF8
import Derived.Test.YtenbhnfajjknkaaDoorL4
import Derived.Test.YtenbhnfajjknkaaDoorCc
import Derived.Test.YtenbhnfajjknkaaDoorF6
import Derived.Test.YtenbhnfajjknkaaDoorIv
import Derived.Test.YtenbhnfajjknkaaDoorF5
namespace Go.Proofs.YtenbhnfajjknkaaDoor
set_option linter.unusedVariables false
set_option linter.unusedSimpArgs false
open Go.RowKit
attribute [local go_sem] Oper.semAt_some

/-- the pixels at the edge -/
def edF (wd n y x : Nat) : Bool := decide (x = 0) || decide (y = 0) || decide (x + 1 = wd) || decide (y + 1 = n)

set_option maxHeartbeats 2000000 in
set_option maxRecDepth 100000 in
theorem l03Edge_any (pb po : Nat) (ss : List ByteArray) (w : World) (hpa : PicAt w pb po ss) :
    Calls Tryd.prog 103 #[.pointer (some ⟨pb, po, none⟩)] w (fun e w' => ∃ v, e = .returned v ∧ (∃ ao n cap, v = .slice ao n cap) ∧ OwnS w' w.heap.size v (spL (edF (row0 ss).size ss.length) (row0 ss).size ((row0 ss).size * ss.length)) ∧ Below w.heap.size w w') := by
  obtain ⟨i0, hi, hz0, hz1, hz2⟩ := info_parts infoSp
  obtain ⟨b0, off0, cap0, hcc, hst, V⟩ := hpa.open'
  have hw1 := V.w1
  have hw16 := V.w16
  have hn1 := V.n1
  have hn16 := V.n16
  have CW : Hid (∀ W, PicAt W pb po ss → Calls Tryd.prog 57 #[.pointer (some ⟨pb, po, none⟩)] W fun e w' => e = .returned (.int .i64 (row0 ss).size) ∧ W = w') := fun W h => l01Width_any _ _ ss W h
  have CH : Hid (∀ W, PicAt W pb po ss → Calls Tryd.prog 56 #[.pointer (some ⟨pb, po, none⟩)] W fun e w' => e = .returned (.int .i64 ss.length) ∧ W = w') := fun W h => l01Height_any _ _ ss W h
  obtain ⟨wd, hwd⟩ : ∃ k, (row0 ss).size = k := ⟨_, rfl⟩
  obtain ⟨n, hnn⟩ : ∃ k, ss.length = k := ⟨_, rfl⟩
  rw [hwd] at CW hw1 hw16 ⊢
  rw [hnn] at CH hn1 hn16 ⊢
  have HPA := Lib.hid hpa
  have hlp : pb < w.heap.size := blk_lt hcc
  obtain ⟨f, hf⟩ : ∃ f, edF wd n = f := ⟨_, rfl⟩
  have HF : Hid (∀ y x, f y x = (decide (x = 0) || decide (y = 0) || decide (x + 1 = wd) || decide (y + 1 = n))) := by show ∀ y x, _; rw [← hf]; intro y x; rfl
  rw [hf]
  clear hcc hst V hpa hwd hnn hf
  go_enter Tryd.func103, Tryd.ntmps103
  go_wp2
  go_loopw [3, 4] (fun v yv wr => ∃ y : Nat, y ≤ n ∧ yv = .int .i64 y ∧ (∃ ao n cap, v = .slice ao n cap) ∧ OwnS wr w.heap.size v (spL f wd (y * wd)) ∧ Below w.heap.size w wr) (fun _ yv _ => n - (intOf yv).toNat)
  case atStart =>
    refine ⟨0, Nat.zero_le _, rfl, ⟨_, _, _, rfl⟩, ?_, Joins.below_alloc1 _ _⟩
    rw [Nat.zero_mul]
    exact World.ownsRow_lit (base := w.heap.size) (e := 79) (size := 2) w #[] 0 (Nat.le_refl _) (by unfold maxLen; omega) rfl
  case round =>
    obtain ⟨y, hy, rfl, ⟨ao, m, cap, rfl⟩, hown, hbel⟩ := hrel
    have A0 := Lib.hid (HPA.out.below hbel)
    by_cases hlt : y < n
    · have kyn : (y : Int) < (n : Int) := by omega
      have HO := Lib.hid hown
      have HB := Lib.hid hbel
      clear hown hbel
      go_wp2_with fail
      refine (CH.out _ A0.out).mono ?_
      rintro e w' ⟨rfl, rfl⟩
      go_wp2_with fail
      go_loopw [3, 5] (fun v xv wr => ∃ x : Nat, x ≤ wd ∧ xv = .int .i64 x ∧ (∃ ao n cap, v = .slice ao n cap) ∧ OwnS wr w.heap.size v (spL f wd (y * wd + x)) ∧ Below w.heap.size w wr) (fun _ xv _ => wd - (intOf xv).toNat)
      case atStart => exact ⟨0, Nat.zero_le _, rfl, ⟨_, _, _, rfl⟩, HO.out, HB.out⟩
      case round =>
        clear HO HB A0
        obtain ⟨x, hx, rfl, ⟨ao, m, cap, rfl⟩, hown, hbel⟩ := hrel
        have A0 := Lib.hid (HPA.out.below hbel)
        by_cases hlt2 : x < wd
        · have kxw : (x : Int) < (wd : Int) := by omega
          have hsn := spL_snoc f wd y x hlt2
          have hle := spL_len f wd (y * wd + x)
          have hNle : y * wd ≤ 256 := Nat.le_trans (Nat.mul_le_mul hy (Nat.le_refl _)) (Nat.mul_le_mul hn16 hw16)
          have hs1 := hbel.size
          have HO := Lib.hid hown
          have HB := Lib.hid hbel
          by_cases k1 : x = 0
          · have hbt : f y x = true := by rw [HF.out]; simp [k1]
            have q1 : ((x : Int) == 0) = true := by rw [beq_iff_eq]; omega
            clear k1
            rw [hbt, if_pos rfl] at hsn
            obtain ⟨L, hL⟩ : ∃ L, spL f wd (y * wd + x) = L := ⟨_, rfl⟩
            rw [hL] at hsn HO hle
            have HSN := Lib.hid hsn
            have hM2 : L.length ≤ 300 := by omega
            clear hown hbel hsn hbt hL
            go_wp2_with fail
            refine (CW.out _ A0.out).mono ?_
            rintro e w' ⟨rfl, rfl⟩
            go_wp2_with (at_builtin; refine wpList_append_own _ rfl _ _ 34 rfl w.heap.size 79 i0 (.agg #[.int .i64 0, .int .i64 0]) 2 16 Tryd.underlying34 hi hz0 hz1 hz2 rfl (by decide) _ _ _ rfl (World.ownsRow.alloc HO.out _) ⟨wr.heap.size, 0, none⟩ 1 1 [.int .i64 ((x : Nat) : Int), .int .i64 ((y : Nat) : Int)] rfl rfl (two_cells_new _ _ _ _) (by intro u hu; simp at hu; rcases hu with rfl | rfl <;> rfl) (by unfold maxLen; omega) (by omega) (by simp; omega) ?_)
            intro v' w2 hown' hgr _
            have o1 := World.ownsRow.alloc HO.out (.cells #[.int .i64 ((x : Nat) : Int), .int .i64 ((y : Nat) : Int)] 79)
            have B2 : Hid (Below w.heap.size w w2) := (HB.out.alloc hs1 _).grown hgr (by simp; omega) (fun k hk => (o1.lt k hk).1)
            have O2 : Hid (OwnS w2 w.heap.size v' (spL f wd (y * wd + (x + 1)))) := by
              show OwnS _ _ _ _
              unfold OwnS
              rw [show y * wd + (x + 1) = y * wd + x + 1 from by omega, HSN.out, flat2_snoc, List.length_append]
              exact hown'
            obtain ⟨g', c', rfl⟩ := Joins.ownsRow_form hown' (by omega)
            clear hown' hgr o1
            go_wp2
            go_roundw
            case rel => exact ⟨x + 1, by omega, by go_num, ⟨_, _, _, rfl⟩, O2.out, B2.out⟩
            case measure => simp [intOf]; omega
          · have q1 : ((x : Int) == 0) = false := by rw [beq_eq_false_iff_ne]; omega
            by_cases k2 : y = 0
            · have hbt : f y x = true := by rw [HF.out]; simp [k2]
              have q2 : ((y : Int) == 0) = true := by rw [beq_iff_eq]; omega
              clear k2
              rw [hbt, if_pos rfl] at hsn
              obtain ⟨L, hL⟩ : ∃ L, spL f wd (y * wd + x) = L := ⟨_, rfl⟩
              rw [hL] at hsn HO hle
              have HSN := Lib.hid hsn
              have hM2 : L.length ≤ 300 := by omega
              clear hown hbel hsn hbt hL
              go_wp2_with fail
              refine (CW.out _ A0.out).mono ?_
              rintro e w' ⟨rfl, rfl⟩
              go_wp2_with (at_builtin; refine wpList_append_own _ rfl _ _ 34 rfl w.heap.size 79 i0 (.agg #[.int .i64 0, .int .i64 0]) 2 16 Tryd.underlying34 hi hz0 hz1 hz2 rfl (by decide) _ _ _ rfl (World.ownsRow.alloc HO.out _) ⟨wr.heap.size, 0, none⟩ 1 1 [.int .i64 ((x : Nat) : Int), .int .i64 ((y : Nat) : Int)] rfl rfl (two_cells_new _ _ _ _) (by intro u hu; simp at hu; rcases hu with rfl | rfl <;> rfl) (by unfold maxLen; omega) (by omega) (by simp; omega) ?_)
              intro v' w2 hown' hgr _
              have o1 := World.ownsRow.alloc HO.out (.cells #[.int .i64 ((x : Nat) : Int), .int .i64 ((y : Nat) : Int)] 79)
              have B2 : Hid (Below w.heap.size w w2) := (HB.out.alloc hs1 _).grown hgr (by simp; omega) (fun k hk => (o1.lt k hk).1)
              have O2 : Hid (OwnS w2 w.heap.size v' (spL f wd (y * wd + (x + 1)))) := by
                show OwnS _ _ _ _
                unfold OwnS
                rw [show y * wd + (x + 1) = y * wd + x + 1 from by omega, HSN.out, flat2_snoc, List.length_append]
                exact hown'
              obtain ⟨g', c', rfl⟩ := Joins.ownsRow_form hown' (by omega)
              clear hown' hgr o1
              go_wp2
              go_roundw
              case rel => exact ⟨x + 1, by omega, by go_num, ⟨_, _, _, rfl⟩, O2.out, B2.out⟩
              case measure => simp [intOf]; omega
            · have q2 : ((y : Int) == 0) = false := by rw [beq_eq_false_iff_ne]; omega
              by_cases k3 : x + 1 = wd
              · have hbt : f y x = true := by rw [HF.out]; simp [k3]
                have q3 : ((x : Int) == (wd : Int) - 1) = true := by rw [beq_iff_eq]; omega
                clear k3
                rw [hbt, if_pos rfl] at hsn
                obtain ⟨L, hL⟩ : ∃ L, spL f wd (y * wd + x) = L := ⟨_, rfl⟩
                rw [hL] at hsn HO hle
                have HSN := Lib.hid hsn
                have hM2 : L.length ≤ 300 := by omega
                clear hown hbel hsn hbt hL
                go_wp2_with fail
                refine (CW.out _ A0.out).mono ?_
                rintro e w' ⟨rfl, rfl⟩
                go_wp2_with fail
                refine (CW.out _ A0.out).mono ?_
                rintro e w' ⟨rfl, rfl⟩
                go_wp2_with (at_builtin; refine wpList_append_own _ rfl _ _ 34 rfl w.heap.size 79 i0 (.agg #[.int .i64 0, .int .i64 0]) 2 16 Tryd.underlying34 hi hz0 hz1 hz2 rfl (by decide) _ _ _ rfl (World.ownsRow.alloc HO.out _) ⟨wr.heap.size, 0, none⟩ 1 1 [.int .i64 ((x : Nat) : Int), .int .i64 ((y : Nat) : Int)] rfl rfl (two_cells_new _ _ _ _) (by intro u hu; simp at hu; rcases hu with rfl | rfl <;> rfl) (by unfold maxLen; omega) (by omega) (by simp; omega) ?_)
                intro v' w2 hown' hgr _
                have o1 := World.ownsRow.alloc HO.out (.cells #[.int .i64 ((x : Nat) : Int), .int .i64 ((y : Nat) : Int)] 79)
                have B2 : Hid (Below w.heap.size w w2) := (HB.out.alloc hs1 _).grown hgr (by simp; omega) (fun k hk => (o1.lt k hk).1)
                have O2 : Hid (OwnS w2 w.heap.size v' (spL f wd (y * wd + (x + 1)))) := by
                  show OwnS _ _ _ _
                  unfold OwnS
                  rw [show y * wd + (x + 1) = y * wd + x + 1 from by omega, HSN.out, flat2_snoc, List.length_append]
                  exact hown'
                obtain ⟨g', c', rfl⟩ := Joins.ownsRow_form hown' (by omega)
                clear hown' hgr o1
                go_wp2
                go_roundw
                case rel => exact ⟨x + 1, by omega, by go_num, ⟨_, _, _, rfl⟩, O2.out, B2.out⟩
                case measure => simp [intOf]; omega
              · have q3 : ((x : Int) == (wd : Int) - 1) = false := by rw [beq_eq_false_iff_ne]; omega
                by_cases k4 : y + 1 = n
                · have hbt : f y x = true := by rw [HF.out]; simp [k4]
                  have q4 : ((y : Int) == (n : Int) - 1) = true := by rw [beq_iff_eq]; omega
                  clear k4
                  rw [hbt, if_pos rfl] at hsn
                  obtain ⟨L, hL⟩ : ∃ L, spL f wd (y * wd + x) = L := ⟨_, rfl⟩
                  rw [hL] at hsn HO hle
                  have HSN := Lib.hid hsn
                  have hM2 : L.length ≤ 300 := by omega
                  clear hown hbel hsn hbt hL
                  go_wp2_with fail
                  refine (CW.out _ A0.out).mono ?_
                  rintro e w' ⟨rfl, rfl⟩
                  go_wp2_with fail
                  refine (CW.out _ A0.out).mono ?_
                  rintro e w' ⟨rfl, rfl⟩
                  go_wp2_with fail
                  refine (CH.out _ A0.out).mono ?_
                  rintro e w' ⟨rfl, rfl⟩
                  go_wp2_with (at_builtin; refine wpList_append_own _ rfl _ _ 34 rfl w.heap.size 79 i0 (.agg #[.int .i64 0, .int .i64 0]) 2 16 Tryd.underlying34 hi hz0 hz1 hz2 rfl (by decide) _ _ _ rfl (World.ownsRow.alloc HO.out _) ⟨wr.heap.size, 0, none⟩ 1 1 [.int .i64 ((x : Nat) : Int), .int .i64 ((y : Nat) : Int)] rfl rfl (two_cells_new _ _ _ _) (by intro u hu; simp at hu; rcases hu with rfl | rfl <;> rfl) (by unfold maxLen; omega) (by omega) (by simp; omega) ?_)
                  intro v' w2 hown' hgr _
                  have o1 := World.ownsRow.alloc HO.out (.cells #[.int .i64 ((x : Nat) : Int), .int .i64 ((y : Nat) : Int)] 79)
                  have B2 : Hid (Below w.heap.size w w2) := (HB.out.alloc hs1 _).grown hgr (by simp; omega) (fun k hk => (o1.lt k hk).1)
                  have O2 : Hid (OwnS w2 w.heap.size v' (spL f wd (y * wd + (x + 1)))) := by
                    show OwnS _ _ _ _
                    unfold OwnS
                    rw [show y * wd + (x + 1) = y * wd + x + 1 from by omega, HSN.out, flat2_snoc, List.length_append]
                    exact hown'
                  obtain ⟨g', c', rfl⟩ := Joins.ownsRow_form hown' (by omega)
                  clear hown' hgr o1
                  go_wp2
                  go_roundw
                  case rel => exact ⟨x + 1, by omega, by go_num, ⟨_, _, _, rfl⟩, O2.out, B2.out⟩
                  case measure => simp [intOf]; omega
                · have q4 : ((y : Int) == (n : Int) - 1) = false := by rw [beq_eq_false_iff_ne]; omega
                  have hbt : f y x = false := by rw [HF.out]; simp [k1, k2, k3, k4]
                  clear k1 k2 k3 k4
                  rw [hbt] at hsn
                  rw [show (if false = true then [((x : Int), (y : Int))] else []) = [] from rfl, List.append_nil] at hsn
                  have O2 : Hid (OwnS wr w.heap.size (.slice ao m cap) (spL f wd (y * wd + (x + 1)))) := by
                    show OwnS _ _ _ _
                    rw [show y * wd + (x + 1) = y * wd + x + 1 from by omega, hsn]
                    exact hown
                  clear hown hbel hsn hbt HO hle
                  go_wp2_with fail
                  refine (CW.out _ A0.out).mono ?_
                  rintro e w' ⟨rfl, rfl⟩
                  go_wp2_with fail
                  refine (CW.out _ A0.out).mono ?_
                  rintro e w' ⟨rfl, rfl⟩
                  go_wp2_with fail
                  refine (CH.out _ A0.out).mono ?_
                  rintro e w' ⟨rfl, rfl⟩
                  go_wp2
                  go_roundw
                  case rel => exact ⟨x + 1, by omega, by go_num, ⟨_, _, _, rfl⟩, O2.out, HB.out⟩
                  case measure => simp [intOf]; omega
        · obtain rfl : x = wd := by omega
          have e1 : y * x + x = (y + 1) * x := by rw [Nat.add_mul, Nat.one_mul]
          rw [e1] at hown
          have HO := Lib.hid hown
          have HB := Lib.hid hbel
          clear hown hbel e1
          go_wp2_with fail
          refine (CW.out _ A0.out).mono ?_
          rintro e w' ⟨rfl, rfl⟩
          go_wp2
          go_roundw
          case rel => exact ⟨y + 1, hlt, by go_num, ⟨_, _, _, rfl⟩, HO.out, HB.out⟩
          case measure => simp [intOf]; omega
    · obtain rfl : y = n := by omega
      rw [Nat.mul_comm y wd] at hown
      have HO := Lib.hid hown
      have HB := Lib.hid hbel
      clear hown hbel
      go_wp2_with fail
      refine (CH.out _ A0.out).mono ?_
      rintro e w' ⟨rfl, rfl⟩
      go_wp2_with fail
      go_ret
      exact ⟨_, rfl, ⟨_, _, _, rfl⟩, HO.out, HB.out⟩
end Go.Proofs.YtenbhnfajjknkaaDoor

/- Contracts of single functions, and plain lemmas, on which the exact laws of this seat rest; each holds under the conditions that it states. -/
namespace Go.Proofs.YtenbhnfajjknkaaDoor
set_option linter.unusedVariables false
set_option linter.unusedSimpArgs false
open Go.RowKit
attribute [local go_sem] Oper.semAt_some

/-! ### the plane outside of a picture -/
def osW (a Y j : Nat) : Nat := if j < Y then 2 ^ a - 1 else 0
theorem osW_lt (a Y : Nat) (ha : a ≤ 16) (j : Nat) : osW a Y j < 65536 := by
  unfold osW
  have : 2 ^ a ≤ 2 ^ 16 := Nat.pow_le_pow_right (by omega) ha
  have h0 : 0 < 2 ^ a := Nat.pow_pos (by omega)
  split <;> omega
theorem osW_zero (a b : Nat) : mat a b (osW a 0) = mcells a b (fun _ => 0) := by
  unfold mat
  congr 1
theorem osW_step (a b y : Nat) (hy : y < 16) : (mat a b (osW a y)).setIfInBounds (2 + y) (.int .u32 ((2 ^ a - 1 : Nat) : Int)) = mat a b (osW a (y + 1)) := by
  rw [mat_put a b _ y hy]
  congr 1
  funext j
  unfold osW
  by_cases e : j = y
  · subst e
    rw [if_pos rfl, if_pos (by omega)]
  · rw [if_neg e]
    by_cases h2 : j < y
    · rw [if_pos h2, if_pos (by omega)]
    · rw [if_neg h2, if_neg (by omega)]
def inR (a b : Nat) (X Y : Int) : Bool := decide ((0 ≤ X ∧ X < (a : Int)) ∧ (0 ≤ Y ∧ Y < (b : Int)))
theorem os_pix (a b : Nat) (ha : a ≤ 16) (hb : b ≤ 16) (X Y : Int) : plF (plOf (osW a b) b) X Y = inR a b X Y := by
  unfold plF inR
  cases hi : inPl X Y with
  | false =>
    unfold inPl at hi
    have h := of_decide_eq_false hi
    exact (decide_eq_false (by omega)).symm
  | true =>
    unfold inPl at hi
    have h := of_decide_eq_true hi
    rw [Bool.true_and]
    unfold plOf osW
    by_cases hy : 4 ≤ (Y + 4).toNat ∧ (Y + 4).toNat < 4 + b
    · rw [if_pos hy, if_pos (by omega), show (16 : Nat) = 2 ^ 4 from rfl, Nat.testBit_mul_two_pow, Nat.testBit_two_pow_sub_one, ← Bool.decide_and]
      exact decide_eq_decide.2 (by omega)
    · rw [if_neg hy, Nat.zero_testBit]
      exact (decide_eq_false (by omega)).symm
/-- the words of the plane outside -/
def outG (a b : Nat) : Nat → Nat := ivG (plOf (osW a b) b) 24
theorem outG_plw (a b : Nat) (ha : a ≤ 16) : PlW (outG a b) := ivG_plw _ (plOf_plw _ _ (osW_lt a b ha)) 24
theorem out_pix (a b : Nat) (ha : a ≤ 16) (hb : b ≤ 16) (X Y : Int) (hi : inPl X Y = true) : plF (outG a b) X Y = !inR a b X Y := by
  unfold outG
  rw [iv_pix _ X Y hi, os_pix a b ha hb]

set_option maxHeartbeats 4000000 in
set_option maxRecDepth 100000 in
theorem outside_any (a b : Nat) (g : Nat → Nat) (w : World) (ha : 1 ≤ a ∧ a ≤ 16) (hb : 1 ≤ b ∧ b ≤ 16) :
    Calls Tryd.prog 78 #[.agg (pl a b g)] w fun e w' => e = .returned (.agg (pl a b (outG a b))) ∧ Below w.heap.size w w' := by
  obtain ⟨M, hM⟩ : ∃ M, pl a b g = M := ⟨_, rfl⟩
  have HMM := Lib.hid hM
  rw [hM]
  have CPl : Hid (∀ W, Calls Tryd.prog 75 #[.agg (mat a b (osW a b))] W fun e w' => e = .returned (.agg (pl a b (plOf (osW a b) b))) ∧ Below W.heap.size W w') := fun W => planeOf_any a b _ W ha.2 hb.2 (osW_lt a b ha.2)
  have CIv : Hid (∀ W, Calls Tryd.prog 79 #[.agg (pl a b (plOf (osW a b) b))] W fun e w' => e = .returned (.agg (pl a b (outG a b))) ∧ Below W.heap.size W w') := fun W => inverted_any a b _ W (plOf_plw _ _ (osW_lt a b ha.2))
  obtain ⟨R, hR⟩ : ∃ R, pl a b (outG a b) = R := ⟨_, rfl⟩
  have HI5 : Hid ((Tryd.prog.info? 68).map (·.size) = some R.size) := by show _ = _; rw [← hR]; exact infoPl
  have HI6 : Hid (zerosP.size = R.size) := by show _ = _; rw [← hR]; rfl
  have HI7 : Hid (R.all (·.oneCell') = true) := by show _ = _; rw [← hR]; exact pl_one _ _ _
  obtain ⟨Q, hQ⟩ : ∃ Q, pl a b (plOf (osW a b) b) = Q := ⟨_, rfl⟩
  obtain ⟨P2, hP2⟩ : ∃ P2, mat a b (osW a b) = P2 := ⟨_, rfl⟩
  have HP2 := Lib.hid hP2
  have HI4 : Hid ((Tryd.prog.info? 99).map (·.size) = some P2.size) := by show _ = _; rw [← hP2]; exact infoM
  rw [hP2, hQ] at CPl
  rw [hQ, hR] at CIv
  rw [hR]
  have CMk := Lib.hid (fun W => maskOf_any a W ha.2)
  obtain ⟨W0, hW0⟩ : ∃ W0, (w.alloc (.cells M 68)).alloc (.cells #[.int .i64 0, .int .i64 0, .int .u32 0, .int .u32 0, .int .u32 0, .int .u32 0, .int .u32 0, .int .u32 0, .int .u32 0, .int .u32 0, .int .u32 0, .int .u32 0, .int .u32 0, .int .u32 0, .int .u32 0, .int .u32 0, .int .u32 0, .int .u32 0, .int .u32 0, .int .u32 0, .int .u32 0, .int .u32 0, .int .u32 0, .int .u32 0, .int .u32 0, .int .u32 0] 68) = W0 := ⟨_, rfl⟩
  have hz : zerosP = #[.int .i64 0, .int .i64 0, .int .u32 0, .int .u32 0, .int .u32 0, .int .u32 0, .int .u32 0, .int .u32 0, .int .u32 0, .int .u32 0, .int .u32 0, .int .u32 0, .int .u32 0, .int .u32 0, .int .u32 0, .int .u32 0, .int .u32 0, .int .u32 0, .int .u32 0, .int .u32 0, .int .u32 0, .int .u32 0, .int .u32 0, .int .u32 0, .int .u32 0, .int .u32 0] := rfl
  have hw0 : W0.heap.size = w.heap.size + 1 + 1 := by rw [← hW0]; simp
  have hb0 : Below w.heap.size w W0 := by rw [← hW0]; exact Joins.below_alloc2 _ _ _
  have hq0 : W0.heap[w.heap.size]? = some (.cells M 68 (0, 0)) := by
    rw [← hW0, Below.heap_alloc _ _ _ (by simp)]; exact heap_alloc_last w _
  have hr0 : W0.heap[w.heap.size + 1]? = some (.cells zerosP 68 (0, 0)) := by
    rw [← hW0, hz]
    exact heap_alloc2_new _ _ _
  have c0 : W0.cell? ⟨w.heap.size, 0, none⟩ = some (.int .i64 a) := by
    rw [Joins.cell_of_block hq0 0, ← hM]; rfl
  have c1 : W0.cell? ⟨w.heap.size, 1, none⟩ = some (.int .i64 b) := by
    rw [Joins.cell_of_block hq0 1, ← hM]; rfl
  have HW0 := Lib.hid hW0
  have HI1 : Hid ((Tryd.prog.info? 99).map (·.size) = some (mcells a b (fun _ => 0)).size) := infoM
  have HI2 : Hid (zeros.size = (mcells a b (fun _ => 0)).size) := rfl
  have HI3 : Hid ((mcells a b (fun _ => 0)).all (·.oneCell') = true) := mcells_one a b (fun _ => 0)
  have HBl := Lib.hid (built_m a b)
  have hC1 : (mcells a b (fun _ => 0))[1]? = some (.int .i64 (b : Int)) := rfl
  obtain ⟨C0, hC0⟩ : ∃ C, mcells (a : Int) (b : Int) (fun _ => 0) = C := ⟨_, rfl⟩
  have HC0 := Lib.hid hC0
  rw [hC0] at HI1 HI2 HI3 HBl hC1
  have hbA := Joins.below_alloc1 W0 (.cells C0 99)
  have HR2 := Lib.hid ((hbA.block _ (Array.getElem?_eq_some_iff.1 hr0).1).trans hr0)
  have HS2 : Hid ((W0.alloc (.cells C0 99)).heap[W0.heap.size]? = some (.cells C0 99 (0, 0))) := heap_alloc_last W0 _
  have cs : (W0.alloc (.cells C0 99)).cell? ⟨W0.heap.size, 1, none⟩ = some (.int .i64 b) := by
    rw [Joins.cell_of_block HS2.out 1]; exact hC1
  have HB2 := Lib.hid (hb0.alloc hb0.size (.cells C0 99))
  have l0 : w.heap.size + 1 < W0.heap.size := by omega
  obtain ⟨ha1, ha16⟩ := ha
  obtain ⟨hb1, hb16⟩ := hb
  clear hM hW0 hq0 hr0 hb0 hC0 hw0 hbA hP2 hC1 hz hR hQ
  go_enter Tryd.func78, Tryd.ntmps78
  go_upto_region 1 with fail
  rw [HW0.out]
  go_wp2_with (first | (refine wpList_build_as rfl 99 _ rfl [(0, .int .i64 a), (1, .int .i64 b)] C0 rfl HBl.out ?_) | (refine wpList_store_new W0 rfl 99 _ _ rfl C0 rfl rfl 99 zeros HI1.out HI2.out HI3.out ?_))
  obtain ⟨m0, hm0⟩ : ∃ m0, W0.heap.size = m0 := ⟨_, rfl⟩
  obtain ⟨W1, hW1⟩ : ∃ W1, W0.alloc (.cells C0 99) = W1 := ⟨_, rfl⟩
  rw [hm0] at HS2 l0 ⊢
  rw [hW1] at HS2 HR2 HB2 ⊢
  clear hm0 hW1 c0 c1 cs
  go_loopw [12] (fun yv wr => ∃ y : Nat, y ≤ b ∧ yv = .int .i64 y ∧ wr.heap[w.heap.size + 1]? = some (.cells zerosP 68 (0, 0)) ∧ wr.heap[m0]? = some (.cells (mat a b (osW a y)) 99 (0, 0)) ∧ Below w.heap.size w wr) (fun yv _ => b - (intOf yv).toNat)
  case atStart => exact ⟨0, Nat.zero_le _, rfl, HR2.out, by rw [osW_zero, HC0.out]; exact HS2.out, HB2.out⟩
  case round =>
    obtain ⟨y, hyl, rfl, hr, hsh, hbel⟩ := hrel
    have R3 := Lib.hid hr
    have S3 := Lib.hid hsh
    have B3 := Lib.hid hbel
    have l3 : m0 < wr.heap.size := (Array.getElem?_eq_some_iff.1 hsh).1
    clear hr hbel
    by_cases hlt : y < b
    · have kyb : (y : Int) < (b : Int) := by omega
      have ky : (y : Int) < 16 := by omega
      have cw : wr.cell? ⟨m0, 0, none⟩ = some (.int .i64 a) := by rw [Joins.cell_of_block hsh 0]; rfl
      have fz : wr.frozen? ⟨m0, 2 + y, none⟩ = false := Joins.unfrozen_of_block hsh _
      have cy : wr.cell? ⟨m0, 2 + y, none⟩ = some (.int .u32 (osW a y y)) := by
        rw [Joins.cell_of_block hsh (2 + y)]; exact mcells_word _ _ _ y (by omega)
      have HX := Lib.hid (Lib.heap_setCell_same (i := 2 + y) S3.out (.int .u32 ((2 ^ a - 1 : Nat) : Int)))
      rw [osW_step a b y (by omega)] at HX
      obtain ⟨k, hkk⟩ : ∃ k : Int, ((2 ^ a - 1 : Nat) : Int) = k := ⟨_, rfl⟩
      rw [hkk] at CMk HX
      clear hsh hkk
      go_wp2_with fail
      refine (CMk.out _).mono ?_
      rintro e w2 ⟨rfl, rfl⟩
      go_wp2
      all_goals exact ⟨⟨y + 1, by omega, by go_num, (Below.heap_setCell _ _ _ _ (by first | (simp; done) | (simp; omega))).trans R3.out, HX.out, B3.out.setCell (p := ⟨m0, 2 + y, none⟩) (by show w.heap.size ≤ m0; omega) _⟩, by simp [intOf]; omega⟩
    · obtain rfl : y = b := by omega
      rw [HP2.out] at S3
      clear hsh
      have hrz := R3.out
      go_wp2_with (first | (refine wpList_load_row rfl 99 _ rfl m0 rfl 99 P2 (0, 0) _ S3.out Tryd.underlying99 rfl HI4.out ?_))
      refine (CPl.out _).mono ?_
      rintro e w2 ⟨rfl, hb2⟩
      have HB5 := Lib.hid (B3.out.trans (hb2.mono B3.out.size))
      have HR5 := Lib.hid ((hb2.block _ (Array.getElem?_eq_some_iff.1 hrz).1).trans hrz)
      clear hb2 hrz
      go_wp2_with fail
      refine (CIv.out _).mono ?_
      rintro e w3 ⟨rfl, hb3⟩
      have HB6 := Lib.hid (HB5.out.trans (hb3.mono HB5.out.size))
      have HR6 := Lib.hid ((hb3.block _ (Array.getElem?_eq_some_iff.1 HR5.out).1).trans HR5.out)
      clear hb3
      go_wp2_with (first | (refine wpList_store_row rfl 68 _ _ rfl (w.heap.size + 1) R rfl rfl 68 zerosP HR6.out HI5.out HI6.out HI7.out ?_))
      exact bodyPost_ret (results_cell1 (p := 2) (ty := 68) Tryd.results78 _ _ (w.heap.size + 1) 68 R (0, 0) _ rfl (setRow_heap _ _ _ _ _ _ HR6.out) Tryd.underlying68 rfl HI5.out) rfl ⟨rfl, setRow_below HB6.out (by omega) _⟩
end Go.Proofs.YtenbhnfajjknkaaDoor

/- Contracts of single functions, and plain lemmas, on which the exact laws of this seat rest; each holds under the conditions that it states. -/
namespace Go.Proofs.YtenbhnfajjknkaaDoor
set_option linter.unusedVariables false
set_option linter.unusedSimpArgs false
open Go.RowKit

/-! ### what is filled -/
/-- white and inside -/
def whI (ss : List ByteArray) (X Y : Int) : Bool := inR (row0 ss).size ss.length X Y && !pixI ss X Y
def edW (ss : List ByteArray) : List (Int × Int) := spL (edF (row0 ss).size ss.length) (row0 ss).size ((row0 ss).size * ss.length)
noncomputable def fhF (ss : List ByteArray) (e8 : Bool) (y x : Nat) : Bool := !rchF (whI ss) (stepL (!e8)) (edW ss) y x
noncomputable def fhP (ss : List ByteArray) (e8 : Bool) : List ByteArray := if validB ss then mkPic (row0 ss).size ss.length (fhF ss e8) else []
theorem fhP_no {ss : List ByteArray} {e8 : Bool} (h : validB ss = false) : fhP ss e8 = [] := by unfold fhP; rw [h]; rfl
theorem fhP_yes {ss : List ByteArray} {e8 : Bool} (h : validB ss = true) : fhP ss e8 = mkPic (row0 ss).size ss.length (fhF ss e8) := by unfold fhP; rw [if_pos h]
theorem fhP_len (ss : List ByteArray) (e8 : Bool) : (fhP ss e8).length ≤ 16 := by
  cases h : validB ss with
  | false => rw [fhP_no h]; simp
  | true => rw [fhP_yes h, mkPic_len]; exact (vp_of h).n16
theorem inR_iff (a b : Nat) (X Y : Int) : inR a b X Y = true ↔ (0 ≤ X ∧ X < (a : Int)) ∧ (0 ≤ Y ∧ Y < (b : Int)) := by unfold inR; exact decide_eq_true_iff
theorem edW_mem {ss : List ByteArray} (V : VP ss) (X Y : Int) : (X, Y) ∈ edW ss ↔ inR (row0 ss).size ss.length X Y = true ∧ (X = 0 ∨ Y = 0 ∨ X + 1 = ((row0 ss).size : Nat) ∨ Y + 1 = (ss.length : Nat)) := by
  unfold edW
  rw [spL_mem, inR_iff]
  have hw := V.w1
  constructor
  · rintro ⟨i, hi, hf, hq⟩
    have h1 : i % (row0 ss).size < (row0 ss).size := Nat.mod_lt _ hw
    have h2 : i / (row0 ss).size < ss.length := Nat.div_lt_of_lt_mul hi
    obtain ⟨rfl, rfl⟩ : X = ((i % (row0 ss).size : Nat) : Int) ∧ Y = ((i / (row0 ss).size : Nat) : Int) := by injection hq with e1 e2; exact ⟨e1, e2⟩
    unfold edF at hf
    simp only [Bool.or_eq_true, decide_eq_true_eq] at hf
    obtain ⟨x, hx⟩ : ∃ x, i % (row0 ss).size = x := ⟨_, rfl⟩
    obtain ⟨y, hy⟩ : ∃ y, i / (row0 ss).size = y := ⟨_, rfl⟩
    rw [hx] at h1 hf ⊢
    rw [hy] at h2 hf ⊢
    clear hx hy hi hq
    omega
  · rintro ⟨hin, he⟩
    obtain ⟨x, rfl⟩ : ∃ x : Nat, X = x := ⟨X.toNat, by omega⟩
    obtain ⟨y, rfl⟩ : ∃ y : Nat, Y = y := ⟨Y.toNat, by omega⟩
    have hx2 : x < (row0 ss).size := by omega
    have hy2 : y < ss.length := by omega
    have e1 : (y * (row0 ss).size + x) / (row0 ss).size = y := by
      rw [Nat.mul_comm, Nat.mul_add_div (by omega), Nat.div_eq_of_lt hx2, Nat.add_zero]
    have e2 : (y * (row0 ss).size + x) % (row0 ss).size = x := by
      rw [Nat.mul_comm, Nat.mul_add_mod, Nat.mod_eq_of_lt hx2]
    refine ⟨y * (row0 ss).size + x, ?_, ?_, by rw [e1, e2]⟩
    · have : (y + 1) * (row0 ss).size ≤ ss.length * (row0 ss).size := Nat.mul_le_mul hy2 (Nat.le_refl _)
      rw [Nat.add_mul, Nat.one_mul] at this
      rw [Nat.mul_comm (row0 ss).size]
      omega
    · rw [e1, e2]
      unfold edF
      simp only [Bool.or_eq_true, decide_eq_true_eq]
      omega
theorem edW_len {ss : List ByteArray} (V : VP ss) : (edW ss).length ≤ 256 := by
  have h := spL_len (edF (row0 ss).size ss.length) (row0 ss).size ((row0 ss).size * ss.length)
  have h2 : (row0 ss).size * ss.length ≤ 16 * 16 := Nat.mul_le_mul V.w16 V.n16
  unfold edW
  omega
/-- the inverted picture's pixels -/
theorem inv_pixI {ss : List ByteArray} (V : VP ss) : pixI (mkPic (row0 ss).size ss.length (invF ss)) = whI ss := by
  funext X Y
  have hn1 := V.n1
  have hr0 : (row0 (mkPic (row0 ss).size ss.length (invF ss))).size = (row0 ss).size := mkPic_row0 _ _ _ hn1
  have hl : (mkPic (row0 ss).size ss.length (invF ss)).length = ss.length := mkPic_len _ _ _
  cases hin : inR (row0 ss).size ss.length X Y with
  | false =>
    have e1 : whI ss X Y = false := by unfold whI; rw [hin]; rfl
    rw [e1]
    cases h : pixI (mkPic (row0 ss).size ss.length (invF ss)) X Y with
    | false => rfl
    | true =>
      have h2 := pixI_inW _ X Y h
      rw [hr0, hl] at h2
      rw [(inR_iff _ _ X Y).2 h2] at hin
      cases hin
  | true =>
    have h2 := (inR_iff _ _ X Y).1 hin
    obtain ⟨x, rfl⟩ : ∃ x : Nat, X = x := ⟨X.toNat, by omega⟩
    obtain ⟨y, rfl⟩ : ∃ y : Nat, Y = y := ⟨Y.toNat, by omega⟩
    have hx2 : x < (row0 ss).size := by omega
    have hy2 : y < ss.length := by omega
    unfold whI
    rw [hin, pixI_nat, pixI_nat, hr0, hl, mkPic_pix _ _ _ hy2 hx2, decide_eq_true hx2, decide_eq_true hy2]
    simp [invF]
/-- outside, as a list -/
def outL (a b : Nat) : List (Int × Int) := ((List.range 576).map fun i => (((i % 24 : Nat) : Int) - 4, ((i / 24 : Nat) : Int) - 4)).filter fun q => !inR a b q.1 q.2
theorem outL_mem (a b : Nat) (q : Int × Int) : q ∈ outL a b ↔ inPl q.1 q.2 = true ∧ inR a b q.1 q.2 = false := by
  unfold outL
  rw [List.mem_filter, List.mem_map]
  constructor
  · rintro ⟨⟨i, hi, rfl⟩, h2⟩
    have hi2 := List.mem_range.1 hi
    refine ⟨?_, by simpa using h2⟩
    unfold inPl
    exact decide_eq_true (by omega)
  · rintro ⟨h1, h2⟩
    unfold inPl at h1
    have h := of_decide_eq_true h1
    refine ⟨⟨(q.2 + 4).toNat * 24 + (q.1 + 4).toNat, List.mem_range.2 (by omega), Prod.ext ?_ ?_⟩, by rw [h2]; rfl⟩
    · show ((((q.2 + 4).toNat * 24 + (q.1 + 4).toNat) % 24 : Nat) : Int) - 4 = q.1
      omega
    · show ((((q.2 + 4).toNat * 24 + (q.1 + 4).toNat) / 24 : Nat) : Int) - 4 = q.2
      omega
theorem step4_in (e : Bool) : (1, 0) ∈ stepL e ∧ (-1, 0) ∈ stepL e ∧ (0, 1) ∈ stepL e ∧ (0, -1) ∈ stepL e := by cases e <;> exact of_decide_eq_true (by kernel_rfl)
theorem pl_reach {ss : List ByteArray} (V : VP ss) (p : Int → Int → Bool) (hp : ∀ X Y, p X Y = (inPl X Y && !pixI ss X Y)) (s : Bool) (X Y : Int) (hin : inR (row0 ss).size ss.length X Y = true) :
    Reach p (stepL s) (outL (row0 ss).size ss.length) (X, Y) ↔ Reach (whI ss) (stepL s) (edW ss) (X, Y) := by
  have hw := V.w16
  have hn := V.n16
  have hw1 := V.w1
  have hn1 := V.n1
  have hwh : ∀ X Y, inR (row0 ss).size ss.length X Y = true → p X Y = true → whI ss X Y = true := fun X Y h1 h2 => by
    rw [hp] at h2
    unfold whI
    rw [h1]
    exact (Bool.and_eq_true_iff.1 h2).2
  have hpw : ∀ X Y, whI ss X Y = true → p X Y = true ∧ inR (row0 ss).size ss.length X Y = true := fun X Y h => by
    unfold whI at h
    obtain ⟨h1, h2⟩ := Bool.and_eq_true_iff.1 h
    refine ⟨?_, h1⟩
    have h3 := (inR_iff _ _ X Y).1 h1
    rw [hp, h2, show inPl X Y = true from decide_eq_true (by omega)]
    rfl
  have hpo : ∀ X Y, inPl X Y = true → inR (row0 ss).size ss.length X Y = false → p X Y = true := fun X Y h1 h2 => by
    rw [hp, h1]
    cases h : pixI ss X Y with
    | false => rfl
    | true =>
      rw [(inR_iff _ _ X Y).2 (pixI_inW ss X Y h)] at h2
      cases h2
  constructor
  · have : ∀ q : Int × Int, Reach p (stepL s) (outL (row0 ss).size ss.length) q → inR (row0 ss).size ss.length q.1 q.2 = true → Reach (whI ss) (stepL s) (edW ss) q := by
      intro q hq
      induction hq with
      | seed h1 h2 =>
        intro h3
        rw [((outL_mem _ _ _).1 h1).2] at h3
        cases h3
      | @step q d h1 h2 h3 ih =>
        intro h4
        have hwb : pAt (whI ss) (addS q d) = true := hwh _ _ h4 h3
        cases hqi : inR (row0 ss).size ss.length q.1 q.2 with
        | true => exact Reach.step (ih hqi) h2 hwb
        | false =>
          refine Reach.seed ((edW_mem V (addS q d).1 (addS q d).2).2 ⟨h4, ?_⟩) hwb
          have hr := stepL_rng s d h2
          have hi := (inR_iff _ _ _ _).1 h4
          have ho : ¬ ((0 ≤ q.1 ∧ q.1 < ((row0 ss).size : Int)) ∧ (0 ≤ q.2 ∧ q.2 < (ss.length : Int))) := fun h => by
            rw [(inR_iff _ _ _ _).2 h] at hqi
            cases hqi
          unfold addS at hi ⊢
          simp only at hi ⊢
          omega
    exact fun h => this (X, Y) h hin
  · have : ∀ q : Int × Int, Reach (whI ss) (stepL s) (edW ss) q → Reach p (stepL s) (outL (row0 ss).size ss.length) q := by
      intro q hq
      induction hq with
      | @seed q h1 h2 =>
        obtain ⟨X, Y⟩ := q
        obtain ⟨h3, h4⟩ := (edW_mem V X Y).1 h1
        have hi := (inR_iff _ _ _ _).1 h3
        have hpp := (hpw X Y h2).1
        have go : ∀ a b : Int, (a, b) ∈ stepL s → inR (row0 ss).size ss.length (X - a) (Y - b) = false → (-1 ≤ a ∧ a ≤ 1) → (-1 ≤ b ∧ b ≤ 1) → Reach p (stepL s) (outL (row0 ss).size ss.length) (X, Y) := fun a b hd ho ha hb => by
          have hpl : inPl (X - a) (Y - b) = true := decide_eq_true (by omega)
          have e : addS (X - a, Y - b) (a, b) = (X, Y) := by unfold addS; simp
          have := Reach.step (p := p) (S := stepL s) (xs := outL (row0 ss).size ss.length) (q := (X - a, Y - b)) (d := (a, b)) (Reach.seed ((outL_mem _ _ _).2 ⟨hpl, ho⟩) (hpo _ _ hpl ho)) hd (by rw [e]; exact hpp)
          rwa [e] at this
        have hs := step4_in s
        have hno : ∀ a b : Int, ¬ ((0 ≤ a ∧ a < ((row0 ss).size : Int)) ∧ (0 ≤ b ∧ b < (ss.length : Int))) → inR (row0 ss).size ss.length a b = false := fun a b h => by
          unfold inR
          exact decide_eq_false h
        rcases h4 with h | h | h | h
        · exact go 1 0 hs.1 (hno _ _ (by omega)) (by omega) (by omega)
        · exact go 0 1 hs.2.2.1 (hno _ _ (by omega)) (by omega) (by omega)
        · exact go (-1) 0 hs.2.1 (hno _ _ (by omega)) (by omega) (by omega)
        · exact go 0 (-1) hs.2.2.2 (hno _ _ (by omega)) (by omega) (by omega)
      | @step q d h1 h2 h3 ih => exact Reach.step ih h2 (hpw _ _ h3).1
    exact this (X, Y)
end Go.Proofs.YtenbhnfajjknkaaDoor
