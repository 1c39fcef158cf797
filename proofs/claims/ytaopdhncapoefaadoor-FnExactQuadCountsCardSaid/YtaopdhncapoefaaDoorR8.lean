/- Contracts of single functions, and plain lemmas, on which the exact laws of this seat rest; each holds under the conditions that it states. -/
import Derived.Test.YtaopdhncapoefaaDoorR7
namespace Go.Proofs.YtaopdhncapoefaaDoor
set_option linter.unusedVariables false
set_option linter.unusedSimpArgs false
open Go.RowKit

theorem kd_facts (b0 b1 b2 b3 : Bool) : (kdN b0 b1 b2 b3 = 1 → cntQ b2 b3 b1 b0 4 = 1) ∧ (kdN b0 b1 b2 b3 = 2 → cntQ b2 b3 b1 b0 4 = 3) ∧ (kdN b0 b1 b2 b3 = 3 → cntQ b2 b3 b1 b0 4 = 2 ∧ (b2 == b0) = true) ∧ (kdN b0 b1 b2 b3 = 0 → (cntQ b2 b3 b1 b0 4 = 0 ∨ cntQ b2 b3 b1 b0 4 = 4 ∨ cntQ b2 b3 b1 b0 4 = 2 ∧ (b2 == b0) = false)) := by
  cases b0 <;> cases b1 <;> cases b2 <;> cases b3 <;> decide

set_option maxHeartbeats 4000000 in
set_option maxRecDepth 100000 in
theorem spec_Quad (v : Value) (ss : List ByteArray) (w : World) (hN : ss.length ≤ maxLen) (hz : ∀ s ∈ ss, s.size ≤ maxLen) (hv : Sl w v ss) :
    Calls Tryd.prog 12 #[.agg #[v]] w (SaysN (qcV ss) (validB ss) w) := by
  have hb0 := Joins.below_alloc1 w (.cells #[v] 28)
  have hc0 : (w.alloc (.cells #[v] 28)).cell? ⟨w.heap.size, 0, none⟩ = some v := by rw [World.cell?_alloc_mark]; rfl
  have C := Lib.hid (l01Is_any w.heap.size 0 v ss (w.alloc (.cells #[v] 28)) hc0 (hv.below hb0) hN hz)
  cases hok : validB ss with
  | false =>
    have hns : qcV ss = [] := by unfold qcV; rw [hok]; rfl
    have HOk := Lib.hid hok
    rw [hns]
    clear hok hv hc0 hb0 hns
    go_enter Tryd.func12, Tryd.ntmps12
    go_wp2_with fail
    refine C.out.mono ?_
    rintro e w' ⟨rfl, hb⟩
    rw [HOk.out]
    have HB := Lib.hid hb
    clear hb
    go_wp2_with fail
    go_ret2
    exact ⟨_, rfl, OwnN.nil _ _, (Joins.below_alloc1 w _).trans (HB.out.mono (by simp))⟩
  | true =>
    obtain ⟨i0, hi, hz0, hz1, hz2⟩ := info_parts infoN64
    have V := vp_of hok
    have hn16 := V.n16
    have hw16 := V.w16
    have hp : ∀ W, Below w.heap.size w W → W.cell? ⟨w.heap.size, 0, none⟩ = some v → PicAt W w.heap.size 0 ss := fun W hb hc => ⟨hok, v, hc, hv.below hb⟩
    have CH : Hid (∀ W, Below w.heap.size w W → W.cell? ⟨w.heap.size, 0, none⟩ = some v → Calls Tryd.prog 30 #[.pointer (some ⟨w.heap.size, 0, none⟩)] W fun e w' => e = .returned (.int .i64 ss.length) ∧ W = w') := fun W hb hc => l01Height_any _ _ ss W (hp W hb hc)
    have CW : Hid (∀ W, Below w.heap.size w W → W.cell? ⟨w.heap.size, 0, none⟩ = some v → Calls Tryd.prog 31 #[.pointer (some ⟨w.heap.size, 0, none⟩)] W fun e w' => e = .returned (.int .i64 (row0 ss).size) ∧ W = w') := fun W hb hc => l01Width_any _ _ ss W (hp W hb hc)
    have CB : Hid (∀ (X Y : Int) W, Below w.heap.size w W → W.cell? ⟨w.heap.size, 0, none⟩ = some v → Calls Tryd.prog 32 #[.pointer (some ⟨w.heap.size, 0, none⟩), .int .i64 X, .int .i64 Y] W fun e w' => e = .returned (.bool (pixI ss X Y)) ∧ W = w') := fun X Y W hb hc => l01Black_any _ _ ss X Y W (hp W hb hc)
    have HQV : Hid (qcV ss = qL (pixI ss) ((row0 ss).size + 1) ((ss.length + 1) * ((row0 ss).size + 1))) := by show _ = _; unfold qcV; rw [if_pos hok]
    have HOk := Lib.hid hok
    obtain ⟨p, hpp⟩ : ∃ p, pixI ss = p := ⟨_, rfl⟩
    rw [hpp] at CB HQV
    have HKl := Lib.hid (fun (x y : Int) => kdP_le p x y)
    obtain ⟨a, ha⟩ : ∃ a, (row0 ss).size = a := ⟨_, rfl⟩
    obtain ⟨b, hbb⟩ : ∃ a, ss.length = a := ⟨_, rfl⟩
    rw [ha] at HQV hw16 CW
    rw [hbb] at HQV hn16 CH
    have HB0 := Lib.hid hb0
    clear hok hv hb0 V hp hpp ha hbb hN hz
    go_enter Tryd.func12, Tryd.ntmps12
    go_wp2_with fail
    refine C.out.mono ?_
    rintro e w1 ⟨rfl, hb⟩
    rw [HOk.out]
    have hc1 := cell_kept hb hc0
    have HB1 := Lib.hid (HB0.out.trans (hb.mono (by simp)))
    clear hb hc0 C HB0
    go_wp2_with (at_make; refine wpList_make_full _ rfl _ _ 32 rfl (w.heap.size + 1) 2 i0 (.int .i64 0) 1 Tryd.underlying32 hi hz0 hz1 _ _ _ _ 3 rfl rfl rfl rfl ?c1 ?c2 ?c3 ?_)
    case c1 => rw [hz2]; omega
    case c2 => unfold maxLen; omega
    case c3 => have := blk_lt hc1; omega
    intro w2 hown hg
    have hbe := (Below.refl _ _).grown hg (Nat.le_refl _) (fun k h => by cases h)
    rw [toList_madeCells_one] at hown
    have O2 : Hid (w2.ownsRow (w.heap.size + 1) 2 1 (.slice (some ⟨w1.heap.size, 0, none⟩) 3 3) 3 (numsV (qL p (a + 1) 0))) := hown
    have hs1 := HB1.out.size
    have B2 := Lib.hid (HB1.out.trans (hbe.mono hs1))
    have c2 := cell_kept hbe hc1
    have hle1 : w.heap.size + 1 ≤ w1.heap.size := by have := blk_lt hc1; omega
    obtain ⟨g, hgg⟩ : ∃ g, w1.heap.size = g := ⟨_, rfl⟩
    rw [hgg] at O2 hle1
    rw [hgg]
    have X2 : Hid (w2.cell? ⟨w.heap.size, 0, none⟩ = some v) := c2
    clear hbe hg hown hgg HB1 hs1 c2 hc1
    go_wp2_with fail
    go_loopw [5] (fun yv wr => ∃ y : Nat, y ≤ b + 1 ∧ yv = .int .i64 ((y : Int) - 1) ∧ Hid (wr.ownsRow (w.heap.size + 1) 2 1 (.slice (some ⟨g, 0, none⟩) 3 3) 3 (numsV (qL p (a + 1) (y * (a + 1))))) ∧ Hid (wr.cell? ⟨w.heap.size, 0, none⟩ = some v) ∧ Hid (Below w.heap.size w wr)) (fun yv _ => (b - intOf yv).toNat)
    case atStart => exact ⟨0, Nat.zero_le _, rfl, by rw [Nat.zero_mul]; exact O2.out, X2.out, B2.out⟩
    case round =>
      clear O2 X2 B2
      obtain ⟨y, hy, rfl, HO2, HX2, HB2⟩ := hrel
      go_wp2_with fail
      refine (CH.out _ HB2.out HX2.out).mono ?_
      rintro e w3 ⟨rfl, rfl⟩
      by_cases hlt : y < b + 1
      · have klt : (y : Int) - 1 < (b : Int) := by omega
        have hmul : y * (a + 1) ≤ 289 := Nat.le_trans (Nat.mul_le_mul (by omega : y ≤ 17) (by omega : a + 1 ≤ 17)) (by omega)
        go_wp2_with fail
        go_loopw [6] (fun xv wr => ∃ x : Nat, x ≤ a + 1 ∧ xv = .int .i64 ((x : Int) - 1) ∧ Hid (wr.ownsRow (w.heap.size + 1) 2 1 (.slice (some ⟨g, 0, none⟩) 3 3) 3 (numsV (qL p (a + 1) (y * (a + 1) + x)))) ∧ Hid (wr.cell? ⟨w.heap.size, 0, none⟩ = some v) ∧ Hid (Below w.heap.size w wr)) (fun xv _ => (a - intOf xv).toNat)
        case atStart => exact ⟨0, Nat.zero_le _, rfl, HO2.out, HX2.out, HB2.out⟩
        case round =>
          clear HO2 HX2 HB2
          obtain ⟨x, hx, rfl, HO2, HX2, HB2⟩ := hrel
          go_wp2_with fail
          refine (CW.out _ HB2.out HX2.out).mono ?_
          rintro e w3 ⟨rfl, rfl⟩
          by_cases hltx : x < a + 1
          · have kltx : (x : Int) - 1 < (a : Int) := by omega
            go_wp2_with fail
            refine (CB.out _ _ _ HB2.out HX2.out).mono ?_
            rintro e w3 ⟨rfl, rfl⟩
            go_wp2_with fail
            refine (CB.out _ _ _ HB2.out HX2.out).mono ?_
            rintro e w3 ⟨rfl, rfl⟩
            go_wp2_with fail
            refine (CB.out _ _ _ HB2.out HX2.out).mono ?_
            rintro e w3 ⟨rfl, rfl⟩
            go_wp2_with fail
            refine (CB.out _ _ _ HB2.out HX2.out).mono ?_
            rintro e w3 ⟨rfl, rfl⟩
            have hkd := HKl.out x y
            have HNo := Lib.hid (fun h => @qL_none p (a + 1) y x hltx h)
            have HSo := Lib.hid (fun k hk h => @qL_some p (a + 1) y x k hltx hk h)
            have HAt := Lib.hid (fun k hk => @qL_at p (a + 1) (y * (a + 1) + x) k hk)
            have HLe := Lib.hid (fun j => qc_le p (a + 1) j (y * (a + 1) + x))
            have hke : kdP p (x : Int) (y : Int) = kdN (p x y) (p ((x : Int) - 1) y) (p ((x : Int) - 1) ((y : Int) - 1)) (p x ((y : Int) - 1)) := rfl
            obtain ⟨b0, h0⟩ : ∃ b, p (x : Int) (y : Int) = b := ⟨_, rfl⟩
            obtain ⟨b1, h1⟩ : ∃ b, p ((x : Int) - 1) (y : Int) = b := ⟨_, rfl⟩
            obtain ⟨b2, h2⟩ : ∃ b, p ((x : Int) - 1) ((y : Int) - 1) = b := ⟨_, rfl⟩
            obtain ⟨b3, h3⟩ : ∃ b, p (x : Int) ((y : Int) - 1) = b := ⟨_, rfl⟩
            rw [h0, h1, h2, h3] at hke
            have HF := Lib.hid (kd_facts b0 b1 b2 b3)
            rw [← hke] at HF
            simp only [h0, h1, h2, h3]
            obtain ⟨kd, hkk⟩ : ∃ k, kdP p x y = k := ⟨_, rfl⟩
            obtain ⟨t, ht⟩ : ∃ t, y * (a + 1) + x = t := ⟨_, rfl⟩
            rw [hkk] at hkd HNo HSo HF
            rw [ht] at HNo HSo HAt HLe HO2
            have ht3 : t ≤ 306 := by omega
            have HT := Lib.hid ht
            have hs2 := HB2.out.size
            have hba := Joins.below_alloc1 wr (.cells #[.bool b2, .bool b3, .bool b1, .bool b0] 4)
            have O4 := Lib.hid (own_below HO2.out hba)
            have X4 := Lib.hid (cell_kept hba HX2.out)
            have B4 := Lib.hid (HB2.out.trans (hba.mono hs2))
            have hA := heap_alloc_last wr (.cells #[.bool b2, .bool b3, .bool b1, .bool b0] 4)
            have hlg := (HO2.out.lt g rfl).2
            clear h0 h1 h2 h3 hke hkk ht hba CB CW CH
            go_wp2
            go_loop [11, 49] (fun nv iv => ∃ i : Nat, i ≤ 4 ∧ iv = .int .i64 i ∧ nv = .int .i64 ((cntQ b2 b3 b1 b0 i : Nat) : Int)) (fun _ iv => 4 - (intOf iv).toNat)
            case atStart => exact ⟨0, by omega, rfl, rfl⟩
            case round =>
              obtain ⟨i, hi4, rfl, rfl⟩ := hrel
              by_cases hlt4 : i < 4
              · have klt4 : (i : Int) < 4 := by omega
                have x0 : (wr.alloc (.cells #[.bool b2, .bool b3, .bool b1, .bool b0] 4)).cell? ⟨wr.heap.size, 0, none⟩ = some (.bool b2) := by rw [Joins.cell_of_block hA 0]; rfl
                have x1' : (wr.alloc (.cells #[.bool b2, .bool b3, .bool b1, .bool b0] 4)).cell? ⟨wr.heap.size, 1, none⟩ = some (.bool b3) := by rw [Joins.cell_of_block hA 1]; rfl
                have x2 : (wr.alloc (.cells #[.bool b2, .bool b3, .bool b1, .bool b0] 4)).cell? ⟨wr.heap.size, 2, none⟩ = some (.bool b1) := by rw [Joins.cell_of_block hA 2]; rfl
                have x3 : (wr.alloc (.cells #[.bool b2, .bool b3, .bool b1, .bool b0] 4)).cell? ⟨wr.heap.size, 3, none⟩ = some (.bool b0) := by rw [Joins.cell_of_block hA 3]; rfl
                clear O4 X4 B4 HNo HSo HAt HLe HF hA HO2 HX2 HB2
                rcases (by omega : i = 0 ∨ i = 1 ∨ i = 2 ∨ i = 3) with rfl | rfl | rfl | rfl
                · have HN : Hid (cntQ b2 b3 b1 b0 1 = cntQ b2 b3 b1 b0 0 + b2.toNat) := by show _ = _; simp [cntQ]
                  have hle := cntQ_le b2 b3 b1 b0 0
                  obtain ⟨q, hq⟩ : ∃ q, cntQ b2 b3 b1 b0 0 = q := ⟨_, rfl⟩
                  rw [hq] at HN hle ⊢
                  have kq : (q : Int) ≤ 4 := by omega
                  clear hq
                  rcases Bool.eq_false_or_eq_true b2 with hbv | hbv
                  · have HN' : Hid (((cntQ b2 b3 b1 b0 1 : Nat) : Int) = (q : Int) + 1) := by show _ = _; rw [HN.out, hbv]; rfl
                    have x1 := x0.trans (congrArg (fun b => some (Value.bool b)) hbv)
                    clear HN x0 x1' x2 x3 hbv
                    go_wp2
                    go_round
                    case rel => exact ⟨1, by omega, by go_num, by first | (rw [HN'.out]; done) | (rw [HN'.out]; go_num)⟩
                    case measure => simp [intOf]
                  · have HN' : Hid (((cntQ b2 b3 b1 b0 1 : Nat) : Int) = (q : Int)) := by show _ = _; rw [HN.out, hbv]; rfl
                    have x1 := x0.trans (congrArg (fun b => some (Value.bool b)) hbv)
                    clear HN x0 x1' x2 x3 hbv
                    go_wp2
                    go_round
                    case rel => exact ⟨1, by omega, by go_num, by rw [HN'.out]⟩
                    case measure => simp [intOf]
                · have HN : Hid (cntQ b2 b3 b1 b0 2 = cntQ b2 b3 b1 b0 1 + b3.toNat) := by show _ = _; simp [cntQ]
                  have hle := cntQ_le b2 b3 b1 b0 1
                  obtain ⟨q, hq⟩ : ∃ q, cntQ b2 b3 b1 b0 1 = q := ⟨_, rfl⟩
                  rw [hq] at HN hle ⊢
                  have kq : (q : Int) ≤ 4 := by omega
                  clear hq
                  rcases Bool.eq_false_or_eq_true b3 with hbv | hbv
                  · have HN' : Hid (((cntQ b2 b3 b1 b0 2 : Nat) : Int) = (q : Int) + 1) := by show _ = _; rw [HN.out, hbv]; rfl
                    have x1 := x1'.trans (congrArg (fun b => some (Value.bool b)) hbv)
                    clear HN x0 x1' x2 x3 hbv
                    go_wp2
                    go_round
                    case rel => exact ⟨2, by omega, by go_num, by first | (rw [HN'.out]; done) | (rw [HN'.out]; go_num)⟩
                    case measure => simp [intOf]
                  · have HN' : Hid (((cntQ b2 b3 b1 b0 2 : Nat) : Int) = (q : Int)) := by show _ = _; rw [HN.out, hbv]; rfl
                    have x1 := x1'.trans (congrArg (fun b => some (Value.bool b)) hbv)
                    clear HN x0 x1' x2 x3 hbv
                    go_wp2
                    go_round
                    case rel => exact ⟨2, by omega, by go_num, by rw [HN'.out]⟩
                    case measure => simp [intOf]
                · have HN : Hid (cntQ b2 b3 b1 b0 3 = cntQ b2 b3 b1 b0 2 + b1.toNat) := by show _ = _; simp [cntQ]
                  have hle := cntQ_le b2 b3 b1 b0 2
                  obtain ⟨q, hq⟩ : ∃ q, cntQ b2 b3 b1 b0 2 = q := ⟨_, rfl⟩
                  rw [hq] at HN hle ⊢
                  have kq : (q : Int) ≤ 4 := by omega
                  clear hq
                  rcases Bool.eq_false_or_eq_true b1 with hbv | hbv
                  · have HN' : Hid (((cntQ b2 b3 b1 b0 3 : Nat) : Int) = (q : Int) + 1) := by show _ = _; rw [HN.out, hbv]; rfl
                    have x1 := x2.trans (congrArg (fun b => some (Value.bool b)) hbv)
                    clear HN x0 x1' x2 x3 hbv
                    go_wp2
                    go_round
                    case rel => exact ⟨3, by omega, by go_num, by first | (rw [HN'.out]; done) | (rw [HN'.out]; go_num)⟩
                    case measure => simp [intOf]
                  · have HN' : Hid (((cntQ b2 b3 b1 b0 3 : Nat) : Int) = (q : Int)) := by show _ = _; rw [HN.out, hbv]; rfl
                    have x1 := x2.trans (congrArg (fun b => some (Value.bool b)) hbv)
                    clear HN x0 x1' x2 x3 hbv
                    go_wp2
                    go_round
                    case rel => exact ⟨3, by omega, by go_num, by rw [HN'.out]⟩
                    case measure => simp [intOf]
                · have HN : Hid (cntQ b2 b3 b1 b0 4 = cntQ b2 b3 b1 b0 3 + b0.toNat) := by show _ = _; simp [cntQ]
                  have hle := cntQ_le b2 b3 b1 b0 3
                  obtain ⟨q, hq⟩ : ∃ q, cntQ b2 b3 b1 b0 3 = q := ⟨_, rfl⟩
                  rw [hq] at HN hle ⊢
                  have kq : (q : Int) ≤ 4 := by omega
                  clear hq
                  rcases Bool.eq_false_or_eq_true b0 with hbv | hbv
                  · have HN' : Hid (((cntQ b2 b3 b1 b0 4 : Nat) : Int) = (q : Int) + 1) := by show _ = _; rw [HN.out, hbv]; rfl
                    have x1 := x3.trans (congrArg (fun b => some (Value.bool b)) hbv)
                    clear HN x0 x1' x2 x3 hbv
                    go_wp2
                    go_round
                    case rel => exact ⟨4, by omega, by go_num, by first | (rw [HN'.out]; done) | (rw [HN'.out]; go_num)⟩
                    case measure => simp [intOf]
                  · have HN' : Hid (((cntQ b2 b3 b1 b0 4 : Nat) : Int) = (q : Int)) := by show _ = _; rw [HN.out, hbv]; rfl
                    have x1 := x3.trans (congrArg (fun b => some (Value.bool b)) hbv)
                    clear HN x0 x1' x2 x3 hbv
                    go_wp2
                    go_round
                    case rel => exact ⟨4, by omega, by go_num, by rw [HN'.out]⟩
                    case measure => simp [intOf]
              · obtain rfl : i = 4 := by omega
                obtain ⟨n4, hn4⟩ : ∃ n, cntQ b2 b3 b1 b0 4 = n := ⟨_, rfl⟩
                rw [hn4] at HF
                rw [hn4]
                clear hn4 hA
                rcases (by omega : kd = 0 ∨ kd = 1 ∨ kd = 2 ∨ kd = 3) with rfl | rfl | rfl | rfl
                · have HNx := Lib.hid (HNo.out rfl)
                  have hF := HF.out.2.2.2 rfl
                  clear HNo HSo HAt HLe HF
                  rcases hF with rfl | rfl | ⟨rfl, hF2⟩
                  all_goals (
                    go_wp2
                    go_roundw
                    case rel => exact ⟨x + 1, by omega, by go_num, by rw [← Nat.add_assoc, HT.out, HNx.out]; exact O4.out, X4.out, B4.out⟩
                    case measure => simp [intOf]; omega)
                · have hold := (O4.out.cellAt 0 (by omega)).trans (HAt.out 0 (by omega))
                  have hfz := O4.out.frozenAt 0
                  have hst := (HO2.out.stored 0 (.int .i64 (((qc p (a + 1) (0 + 1) t : Nat) : Int) + 1))).1
                  rw [← HSo.out 0 (by omega) rfl] at hst
                  have hq := HLe.out (0 + 1)
                  have HS := Lib.hid (World.ownsRow.alloc hst (.cells #[.bool b2, .bool b3, .bool b1, .bool b0] 4))
                  obtain ⟨q, hqq⟩ : ∃ q, qc p (a + 1) (0 + 1) t = q := ⟨_, rfl⟩
                  rw [hqq] at hold HS hq
                  have kq : (q : Int) ≤ 306 := by omega
                  have hbs := Joins.below_alloc1 (wr.setCell ⟨g, 0, none⟩ (.int .i64 ((q : Int) + 1))) (.cells #[.bool b2, .bool b3, .bool b1, .bool b0] 4)
                  have X5 := Lib.hid (cell_kept hbs (show (wr.setCell ⟨g, 0, none⟩ (.int .i64 ((q : Int) + 1))).cell? ⟨w.heap.size, 0, none⟩ = some v by rw [World.cell?_setCell_other _ _ _ _ (by intro e; have := congrArg Addr.block e; simp at this; omega)]; exact HX2.out))
                  have B5 := Lib.hid ((HB2.out.setCell (p := ⟨g, 0, none⟩) (by simp; omega) (.int .i64 ((q : Int) + 1))).trans (hbs.mono (by simpa [World.setCell] using hs2)))
                  have hF := (HF.out.1 rfl)
                  skip
                  have hn4 : n4 = 1 := hF
                  clear HNo HSo HAt HLe O4 X4 B4 hst hqq HF hF HO2 HX2 HB2 hbs
                  subst hn4
                  go_wp2
                  go_roundw
                  case rel => exact ⟨x + 1, by omega, by go_num, by rw [← Nat.add_assoc, HT.out]; exact HS.out, X5.out, B5.out⟩
                  case measure => simp [intOf]; omega
                · have hold := (O4.out.cellAt 1 (by omega)).trans (HAt.out 1 (by omega))
                  have hfz := O4.out.frozenAt 1
                  have hst := (HO2.out.stored 1 (.int .i64 (((qc p (a + 1) (1 + 1) t : Nat) : Int) + 1))).1
                  rw [← HSo.out 1 (by omega) rfl] at hst
                  have hq := HLe.out (1 + 1)
                  have HS := Lib.hid (World.ownsRow.alloc hst (.cells #[.bool b2, .bool b3, .bool b1, .bool b0] 4))
                  obtain ⟨q, hqq⟩ : ∃ q, qc p (a + 1) (1 + 1) t = q := ⟨_, rfl⟩
                  rw [hqq] at hold HS hq
                  have kq : (q : Int) ≤ 306 := by omega
                  have hbs := Joins.below_alloc1 (wr.setCell ⟨g, 1, none⟩ (.int .i64 ((q : Int) + 1))) (.cells #[.bool b2, .bool b3, .bool b1, .bool b0] 4)
                  have X5 := Lib.hid (cell_kept hbs (show (wr.setCell ⟨g, 1, none⟩ (.int .i64 ((q : Int) + 1))).cell? ⟨w.heap.size, 0, none⟩ = some v by rw [World.cell?_setCell_other _ _ _ _ (by intro e; have := congrArg Addr.block e; simp at this; omega)]; exact HX2.out))
                  have B5 := Lib.hid ((HB2.out.setCell (p := ⟨g, 1, none⟩) (by simp; omega) (.int .i64 ((q : Int) + 1))).trans (hbs.mono (by simpa [World.setCell] using hs2)))
                  have hF := (HF.out.2.1 rfl)
                  skip
                  have hn4 : n4 = 3 := hF
                  clear HNo HSo HAt HLe O4 X4 B4 hst hqq HF hF HO2 HX2 HB2 hbs
                  subst hn4
                  go_wp2
                  go_roundw
                  case rel => exact ⟨x + 1, by omega, by go_num, by rw [← Nat.add_assoc, HT.out]; exact HS.out, X5.out, B5.out⟩
                  case measure => simp [intOf]; omega
                · have hold := (O4.out.cellAt 2 (by omega)).trans (HAt.out 2 (by omega))
                  have hfz := O4.out.frozenAt 2
                  have hst := (HO2.out.stored 2 (.int .i64 (((qc p (a + 1) (2 + 1) t : Nat) : Int) + 1))).1
                  rw [← HSo.out 2 (by omega) rfl] at hst
                  have hq := HLe.out (2 + 1)
                  have HS := Lib.hid (World.ownsRow.alloc hst (.cells #[.bool b2, .bool b3, .bool b1, .bool b0] 4))
                  obtain ⟨q, hqq⟩ : ∃ q, qc p (a + 1) (2 + 1) t = q := ⟨_, rfl⟩
                  rw [hqq] at hold HS hq
                  have kq : (q : Int) ≤ 306 := by omega
                  have hbs := Joins.below_alloc1 (wr.setCell ⟨g, 2, none⟩ (.int .i64 ((q : Int) + 1))) (.cells #[.bool b2, .bool b3, .bool b1, .bool b0] 4)
                  have X5 := Lib.hid (cell_kept hbs (show (wr.setCell ⟨g, 2, none⟩ (.int .i64 ((q : Int) + 1))).cell? ⟨w.heap.size, 0, none⟩ = some v by rw [World.cell?_setCell_other _ _ _ _ (by intro e; have := congrArg Addr.block e; simp at this; omega)]; exact HX2.out))
                  have B5 := Lib.hid ((HB2.out.setCell (p := ⟨g, 2, none⟩) (by simp; omega) (.int .i64 ((q : Int) + 1))).trans (hbs.mono (by simpa [World.setCell] using hs2)))
                  have hF := (HF.out.2.2.1 rfl)
                  have hF2 := hF.2
                  have hn4 : n4 = 2 := hF.1
                  clear HNo HSo HAt HLe O4 X4 B4 hst hqq HF hF HO2 HX2 HB2 hbs
                  subst hn4
                  go_wp2
                  go_roundw
                  case rel => exact ⟨x + 1, by omega, by go_num, by rw [← Nat.add_assoc, HT.out]; exact HS.out, X5.out, B5.out⟩
                  case measure => simp [intOf]; omega
          · obtain rfl : x = a + 1 := by omega
            have e1 : y * (a + 1) + (a + 1) = (y + 1) * (a + 1) := by rw [Nat.add_mul y 1 (a + 1), Nat.one_mul]
            rw [e1] at HO2
            clear e1
            go_wp2
            go_roundw
            case rel => exact ⟨y + 1, by omega, by go_num, HO2.out, HX2.out, HB2.out⟩
            case measure => simp [intOf]; omega
      · obtain rfl : y = b + 1 := by omega
        have HFn : Hid (OwnN wr w.heap.size (.slice (some ⟨g, 0, none⟩) 3 3) (qcV ss)) := by
          show OwnN _ _ _ _
          rw [HQV.out]
          exact OwnN.mono (base := w.heap.size + 1) HO2.out (by omega)
        clear HO2 HX2
        go_wp2
        go_ret2
        exact ⟨_, rfl, HFn.out, HB2.out⟩
end Go.Proofs.YtaopdhncapoefaaDoor
