/- Contracts of single functions, and plain lemmas, on which the exact laws of this seat rest; each holds under the conditions that it states. -/
import Derived.Test.YtelakopkpmkdcaaAc
import Derived.Test.YtelakopkpmkdcaaAa
import Derived.Test.YtelakopkpmkdcaaA7
namespace Go.Proofs.Ytelakopkpmkdcaa
set_option linter.unusedVariables false
set_option linter.unusedSimpArgs false
open Go.RowKit

theorem cr_same (r : Nat) (h : r ≤ 4) : grL (2 * r + 1) (-(r : Int)) (crF r) ((2 * r + 1) * (2 * r + 1)) = elL (crF r) := by
  rcases (by omega : r = 0 ∨ r = 1 ∨ r = 2 ∨ r = 3 ∨ r = 4) with rfl | rfl | rfl | rfl | rfl <;> decide +kernel
theorem cr_ok (r : Nat) (h : r ≤ 4) : elB (elL (crF r)) = true := by
  rcases (by omega : r = 0 ∨ r = 1 ∨ r = 2 ∨ r = 3 ∨ r = 4) with rfl | rfl | rfl | rfl | rfl <;> decide +kernel

set_option maxHeartbeats 2000000 in
set_option maxRecDepth 100000 in
theorem spec_Cross_yes (r : Nat) (w : World) (hr : r ≤ 4) : Calls Try.prog 14 #[.int .i64 r] w (SaysElB (elL (crF r)) true w) := by
  obtain ⟨i0, hi, hz0, hz1, hz2⟩ := info_parts infoSp
  have h1 := Lib.hid (inB_yes (n := (r : Int)) (a := 0) (b := 4) (by omega) (by omega))
  have HSame := Lib.hid (cr_same r hr)
  have HOk := Lib.hid (cr_ok r hr)
  have HELen := Lib.hid (elL_len (crF r))
  obtain ⟨n, hn⟩ : ∃ n, 2 * r + 1 = n := ⟨_, rfl⟩
  have hn9 : n ≤ 9 := by omega
  have hnI : (n : Int) = 2 * (r : Int) + 1 := by omega
  rw [hn] at HSame
  have e0 : IntKind.i64.wrap (-(r : Int)) = -(r : Int) := IntWalk.i64_in _ (by omega)
  clear hn
  go_enter Try.func14, Try.ntmps14
  go_wp2_with fail
  refine (l00In_any _ _ _ _).mono ?_
  rintro e w' ⟨rfl, rfl⟩
  rw [h1.out]
  go_wp2_with fail
  go_loopw [5] (fun yv wr => ∃ (y : Nat) (Y : Int) (ao : Option Addr) (m cap : Nat), y ≤ n ∧ yv = .int .i64 Y ∧ Hid (Y = (y : Int) + -(r : Int)) ∧ Hid (ElSt w wr w.heap.size (w.heap.size + 1 + 1) (.slice ao m cap) (grL n (-(r : Int)) (crF r) (y * n)))) (fun yv _ => (r + 1 - intOf yv).toNat)
  case atStart =>
    refine ⟨0, -(r : Int), some ⟨w.heap.size + 1, 0, none⟩, 0, 0, Nat.zero_le _, rfl, (by show _ = _; omega), ?_⟩
    rw [Nat.zero_mul, grL_zero]
    exact ElSt.start w
  case round =>
    obtain ⟨y, Y, ao, m, cap, hy, rfl, HY, HS⟩ := hrel
    by_cases hlt : y < n
    · have kY : Y ≤ (r : Int) := by have := HY.out; omega
      have kY2 : -4 ≤ Y := by have := HY.out; omega
      go_wp2_with fail
      go_loopw [6] (fun xv wr => ∃ (x : Nat) (X : Int) (ao : Option Addr) (m cap : Nat), x ≤ n ∧ xv = .int .i64 X ∧ Hid (X = (x : Int) + -(r : Int)) ∧ Hid (ElSt w wr w.heap.size (w.heap.size + 1 + 1) (.slice ao m cap) (grL n (-(r : Int)) (crF r) (y * n + x)))) (fun xv _ => (r + 1 - intOf xv).toNat)
      case atStart => exact ⟨0, -(r : Int), ao, m, cap, Nat.zero_le _, rfl, (by show _ = _; omega), HS.out⟩
      case round =>
        clear HS ao m cap
        obtain ⟨x, X, ao, m, cap, hx, rfl, HX, HS⟩ := hrel
        by_cases hltx : x < n
        · have kX : X ≤ (r : Int) := by have := HX.out; omega
          have kX2 : -4 ≤ X := by have := HX.out; omega
          have hsn := grL_snoc n (-(r : Int)) (crF r) y x hltx
          rw [← HX.out, ← HY.out] at hsn
          have hle := grL_len n (-(r : Int)) (crF r) (y * n + x)
          have hNle : y * n ≤ 81 := Nat.le_trans (Nat.mul_le_mul hy (Nat.le_refl _)) (Nat.mul_le_mul hn9 hn9)
          rw [show y * n + x + 1 = y * n + (x + 1) from by omega] at hsn
          obtain ⟨L, hL⟩ : ∃ L, grL n (-(r : Int)) (crF r) (y * n + x) = L := ⟨_, rfl⟩
          rw [hL] at HS hsn hle
          have hlen : L.length ≤ 90 := by omega
          have rX := absI_range X (by omega)
          have rY := absI_range Y (by omega)
          have HF : Hid (crF r X Y = decide (absI X + absI Y ≤ (r : Int))) := rfl
          have CX := Lib.hid (fun W => l03Abs_any X W (by omega))
          have CY := Lib.hid (fun W => l03Abs_any Y W (by omega))
          obtain ⟨a, ha⟩ : ∃ a, absI X = a := ⟨_, rfl⟩
          obtain ⟨b, hb⟩ : ∃ b, absI Y = b := ⟨_, rfl⟩
          rw [ha] at CX HF rX
          rw [hb] at CY HF rY
          have c0 := HS.out.cell
          have f0 := HS.out.fr
          have l0 := HS.out.ltB
          have hs := HS.out.bel.size
          by_cases ht : a + b ≤ (r : Int)
          · have hf := HF.out.trans (decide_eq_true ht)
            rw [hf, if_pos rfl] at hsn
            have HSn := Lib.hid hsn
            clear hL hsn hle hNle ha hb hf HF
            go_wp2_with fail
            refine (CX.out _).mono ?_
            rintro e w' ⟨rfl, rfl⟩
            go_wp2_with fail
            refine (CY.out _).mono ?_
            rintro e w' ⟨rfl, rfl⟩
            go_wp2_with (at_builtin; refine wpList_append_own _ rfl _ _ 22 rfl w.heap.size 46 i0 (.agg #[.int .i64 0, .int .i64 0]) 2 16 Try.underlying22 hi hz0 hz1 hz2 rfl (by decide) _ _ _ rfl (World.ownsRow.alloc HS.out.own _) ⟨wr.heap.size, 0, none⟩ 1 1 [.int .i64 X, .int .i64 Y] rfl rfl (two_cells_new _ _ _ _) (by intro u hu; simp at hu; rcases hu with rfl | rfl <;> rfl) (by unfold maxLen; omega) (by omega) (by simp; omega) ?_)
            intro v' w1 hown' hgr _
            obtain ⟨g', c', rfl⟩ := Joins.ownsRow_form hown' (by omega)
            obtain ⟨hb1, hS1⟩ := HS.out.appended X Y hown' hgr
            have hc1 := cell_of_one hb1
            have hf1 := free_of_one hb1
            have HS1 := Lib.hid hS1
            clear hown' hgr hb1 hS1 c0 f0 CX CY
            go_wp2
            go_roundw
            case rel => exact ⟨x + 1, X + 1, _, _, _, by omega, by go_num, (by show _ = _; have := HX.out; omega), by rw [HSn.out]; exact HS1.out⟩
            case measure => simp [intOf]; omega
          · have hf := HF.out.trans (decide_eq_false ht)
            rw [hf, if_neg (by simp), List.append_nil] at hsn
            have HSn := Lib.hid hsn
            clear hL hsn hle hNle ha hb hf HF
            go_wp2_with fail
            refine (CX.out _).mono ?_
            rintro e w' ⟨rfl, rfl⟩
            go_wp2_with fail
            refine (CY.out _).mono ?_
            rintro e w' ⟨rfl, rfl⟩
            go_wp2
            go_roundw
            case rel => exact ⟨x + 1, X + 1, ao, m, cap, by omega, by go_num, (by show _ = _; have := HX.out; omega), by rw [HSn.out]; exact HS.out⟩
            case measure => simp [intOf]; omega
        · obtain rfl : x = n := by omega
          have kX : (r : Int) < X := by have := HX.out; omega
          have e1 : y * x + x = (y + 1) * x := by rw [Nat.add_mul, Nat.one_mul]
          rw [e1] at HS
          clear e1
          go_wp2_with fail
          go_roundw
          case rel => exact ⟨y + 1, Y + 1, ao, m, cap, by omega, by go_num, (by show _ = _; have := HY.out; omega), HS.out⟩
          case measure => simp [intOf]; omega
    · obtain rfl : y = n := by omega
      have kY : (r : Int) < Y := by have := HY.out; omega
      rw [HSame.out] at HS
      obtain ⟨E, hE⟩ : ∃ E, elL (crF r) = E := ⟨_, rfl⟩
      rw [hE] at HS HOk HELen ⊢
      have CI := Lib.hid (l03Is_any (w.heap.size + 1 + 1) (.slice ao m cap) E wr HS.out.b (by have := HELen.out; omega) (OwnS.sl HS.out.own))
      rw [HOk.out] at CI
      have l0 := HS.out.ltB
      have HE := Lib.hid hE
      clear hE
      go_wp2_with fail
      refine CI.out.mono ?_
      rintro e w3 ⟨rfl, hb3⟩
      have H3 := Lib.hid (HS.out.below hb3)
      have c0 := H3.out.cell
      have c1 := H3.out.cellR
      have f1 := H3.out.frR
      have l3 := H3.out.ltB
      have hs := H3.out.bel.size
      have HO := Lib.hid (H3.out.own_out (.slice ao m cap))
      have HR := Lib.hid (one_setCell (u := .slice ao m cap) H3.out.r)
      have HB := Lib.hid (H3.out.bel.setCell (p := ⟨w.heap.size, 0, none⟩) (Nat.le_refl _) (.slice ao m cap))
      clear HS H3 hb3 CI
      go_wp2_with fail
      refine bodyPost_ret (v := .tuple #[.agg #[.slice ao m cap], .bool true]) (by simp [results, Try.results14, go_sem, cell_of_one HR.out]) rfl ⟨ao, m, cap, rfl, by first | exact HO.out | (rw [HE.out]; exact HO.out), HB.out⟩

set_option maxHeartbeats 1000000 in
theorem spec_Cross_no (a : Int) (w : World) (h : ¬ (0 ≤ a ∧ a ≤ 4)) : Calls Try.prog 14 #[.int .i64 a] w (SaysElB [] false w) := by
  have h1 := Lib.hid (inB_no (n := a) (a := 0) (b := 4) (by omega))
  have hP0 := Lib.hid (heap_alloc_last w (.cells #[.slice none 0 0] 24))
  clear h
  go_enter Try.func14, Try.ntmps14
  go_wp2_with fail
  refine (l00In_any _ _ _ _).mono ?_
  rintro e w' ⟨rfl, rfl⟩
  rw [h1.out]
  go_wp2_with fail
  refine bodyPost_ret (v := .tuple #[.agg #[.slice none 0 0], .bool false]) (by simp [results, Try.results14, go_sem, cell_of_one hP0.out]) rfl ⟨_, _, _, rfl, World.ownsRow_nil _ _ _ _, Joins.below_alloc1 w _⟩
end Go.Proofs.Ytelakopkpmkdcaa
