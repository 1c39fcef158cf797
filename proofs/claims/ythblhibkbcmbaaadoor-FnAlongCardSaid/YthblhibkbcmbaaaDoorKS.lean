/- Contracts of single functions, and plain lemmas, on which the exact laws of this seat rest; each holds under the conditions that it states. -/
import Derived.Test.YthblhibkbcmbaaaDoorQb
import Derived.Test.YthblhibkbcmbaaaDoorSD
namespace Go.Proofs.YthblhibkbcmbaaaDoor
set_option linter.unusedVariables false
set_option linter.unusedSimpArgs false
open Go.RowKit

/-! ### a picture that is made of a function -/
theorem rowOf_size (f : Nat → Bool) (n : Nat) : (rowOf f n).size = n := by simp [rowOf, ByteArray.size, mkRow]
theorem rowOf_get (f : Nat → Bool) (n x : Nat) (h : x < (rowOf f n).size) : (rowOf f n)[x]'h = if f x = true then 35 else 46 := by
  have hx : x < n := by rwa [rowOf_size] at h
  have : (rowOf f n)[x]'h = (mkRow f n)[x]'(by rw [mkRow_len]; exact hx) := by
    simp [rowOf, ByteArray.getElem_eq_getElem_data]
  rw [this]
  simp [mkRow]
theorem mkPic_getD (wd h : Nat) (f : Nat → Nat → Bool) {y : Nat} (hy : y < h) : (mkPic wd h f).getD y ByteArray.empty = rowOf (f y) wd := by
  simp [mkPic, List.getD, hy]
theorem mkPic_row0 (wd h : Nat) (f : Nat → Nat → Bool) (hh : 1 ≤ h) : (row0 (mkPic wd h f)).size = wd := by
  show ((mkPic wd h f).getD 0 ByteArray.empty).size = wd
  rw [mkPic_getD wd h f (by omega), rowOf_size]
theorem mkPic_pix (wd h : Nat) (f : Nat → Nat → Bool) {y x : Nat} (hy : y < h) (hx : x < wd) : pixF (mkPic wd h f) y x = f y x := by
  unfold pixF
  rw [mkPic_getD wd h f hy, blackAt_eq _ _ (by rw [rowOf_size]; exact hx), rowOf_get]
  cases f y x <;> rfl
theorem mkPic_valid (wd h : Nat) (f : Nat → Nat → Bool) (hw : 1 ≤ wd ∧ wd ≤ 16) (hh : 1 ≤ h ∧ h ≤ 16) : validB (mkPic wd h f) = true := by
  unfold validB
  simp only [Bool.and_eq_true, decide_eq_true_eq, mkPic_len, mkPic_row0 wd h f hh.1]
  refine ⟨⟨⟨⟨hh.1, hh.2⟩, hw.1⟩, hw.2⟩, ?_⟩
  rw [List.all_eq_true]
  intro s hs
  obtain ⟨y, hy, rfl⟩ := List.mem_iff_getElem.1 hs
  rw [mkPic_len] at hy
  have e : (mkPic wd h f)[y] = rowOf (f y) wd := by simp [mkPic]
  rw [e]
  unfold rowB
  simp only [Bool.and_eq_true, decide_eq_true_eq]
  refine ⟨rowOf_size _ _, ?_⟩
  rw [List.all_eq_true]
  intro c hc
  have hc' : c ∈ mkRow (f y) wd := by simpa [rowOf] using hc
  obtain ⟨x, hx, rfl⟩ := List.mem_iff_getElem.1 hc'
  simp only [mkRow, List.getElem_map, List.getElem_range]
  cases f y x <;> decide
end Go.Proofs.YthblhibkbcmbaaaDoor

/- Contracts of single functions, and plain lemmas, on which the exact laws of this seat rest; each holds under the conditions that it states. -/
namespace Go.Proofs.YthblhibkbcmbaaaDoor
set_option linter.unusedVariables false
set_option linter.unusedSimpArgs false
open Go.RowKit
attribute [local go_sem] Oper.semAt_some

set_option maxHeartbeats 8000000 in
set_option maxRecDepth 100000 in
theorem l02Square_any (sd2 p : Nat) (v : Value) (ns : List Nat) (m : Nat) (w : World) (hS : Src w p v ns m) (hw : 1 ≤ sd2 ∧ sd2 ≤ 16) (hm : m ≤ 1000) :
    Calls Tryd.prog 54 #[.pointer (some ⟨p, 0, none⟩), .int .i64 (sd2 : Int)] w (DrewPic w p v ns (m + 300) sd2 sd2) := by
  obtain ⟨i0, hi, hz0, hz1, hz2⟩ := info_parts Tryd.info4
  have hNle : sd2 * sd2 ≤ 256 := Nat.mul_le_mul hw.2 hw.2
  have CM : Hid (∀ N (bs : List Bool) W, bs.length = N → Bools W (w.heap.size + 1) 0 bs → N = sd2 * sd2 → Calls Tryd.prog 45 #[.int .i64 (sd2 : Int), .slice (some ⟨w.heap.size + 1, 0, none⟩) N N] W (fun e w' => ∃ g cap, e = .returned (.agg #[.slice (some ⟨g, 0, none⟩) sd2 cap]) ∧ OwnP w' W.heap.size (.slice (some ⟨g, 0, none⟩) sd2 cap) (mkPic sd2 sd2 (fun y x => bs.getD (y * sd2 + x) false)) ∧ Below W.heap.size W w')) := fun N bs W h1 h2 h3 => by
    subst h3
    have := l01Make_any (w.heap.size + 1) 0 (sd2 * sd2) sd2 sd2 bs W hw hw h1 h2
    unfold TookPic at this
    rw [mkPic_len] at this
    exact this
  have hidx : ∀ i j : Nat, i < sd2 → j < sd2 → j * sd2 + i < sd2 * sd2 := fun i j hi hj => by
    have h3 : (j + 1) * sd2 ≤ sd2 * sd2 := Nat.mul_le_mul_right _ hj
    rw [Nat.add_mul, Nat.one_mul] at h3
    omega
  have HX := Lib.hid hidx
  have hc : (sd2 : Int) * (sd2 : Int) = ((sd2 * sd2 : Nat) : Int) := by push_cast; rfl
  obtain ⟨N, hNN⟩ : ∃ N, sd2 * sd2 = N := ⟨_, rfl⟩
  rw [hNN] at hNle hc CM HX
  have hlt := hS.lt
  have HS := Lib.hid hS
  have hP0 : Hid ((w.alloc (.cells #[.slice none 0 0] 29)).heap[w.heap.size]? = some (.cells #[.slice none 0 0] 29 (0, 0))) := heap_alloc_last w _
  obtain ⟨hw1, hw2⟩ := hw
  clear hS hNN hidx
  go_enter Tryd.func54, Tryd.ntmps54
  go_wp2_with (at_make; refine wpList_make_full _ rfl _ _ 73 rfl w.heap.size 4 i0 (.bool false) 1 Tryd.underlying73 hi hz0 hz1 _ _ _ _ N rfl rfl rfl rfl ?c1 ?c2 (by simp) ?_)
  case c1 => rw [hz2]; omega
  case c2 => unfold maxLen; omega
  intro w1 hown hgr
  rw [toList_madeCells_one] at hown
  have hbel : Below w.heap.size w w1 := (Joins.below_alloc1 w _).grown hgr (by simp) (fun k h => by cases h)
  have hp1 : w1.heap[w.heap.size]? = some (.cells #[.slice none 0 0] 29 (0, 0)) := (hgr.block _ (by simp) (by simp)).trans hP0.out
  have hrep : boolV (List.replicate N false) = List.replicate N (.bool false) := by unfold boolV; rw [List.map_replicate]
  rw [← hrep] at hown
  have HD0 : Hid (DrSt w w1 p v ns N m (List.replicate N false)) := ⟨hown, List.length_replicate, HS.out.bel hbel hlt, ⟨hbel.os, hbel.tape, hbel.output, hbel.size, fun k hk _ => hbel.block k hk⟩, hlt, hp1⟩
  clear hgr hc hown hbel hp1 HS hP0 hrep
  go_wp2_with fail
  refine (pick_any p v ns m 5 _ HD0.out.src (by omega) (by omega)).mono ?_
  rintro e w2 ⟨⟨kc, hkc, rfl⟩, hd⟩
  have HD5 := Lib.hid (HD0.out.draw hd)
  have hkc4 : kc ≤ 4 := by omega
  clear hd HD0 hkc
  go_wp2_with fail
  go_loopw [6] (fun kv wr => ∃ (k m' : Nat) (bs : List Bool), k ≤ 4 ∧ kv = .int .i64 (k : Int) ∧ m' ≤ m + 1 + 5 * (4 - k) ∧ Hid (DrSt w wr p v ns N m' bs)) (fun kv _ => (intOf kv).toNat)
  case atStart => exact ⟨kc, _, _, hkc4, rfl, by omega, HD5⟩
  case round =>
    clear HD5
    obtain ⟨k, m', bs, hk4, rfl, hm', HD⟩ := hrel
    by_cases hk0 : 0 < k
    · go_wp2_with fail
      refine (pick_any p v ns m' 4 _ HD.out.src (by omega) (by omega)).mono ?_
      rintro e wa ⟨⟨e4, he4, rfl⟩, hd⟩
      have HDa := Lib.hid (HD.out.draw hd)
      clear hd HD
      have hs8 : ∃ s0 : Nat, wrap64 (2 ^ e4) = (s0 : Int) ∧ 1 ≤ s0 ∧ s0 ≤ 8 := by
        rcases (by omega : e4 = 0 ∨ e4 = 1 ∨ e4 = 2 ∨ e4 = 3) with rfl | rfl | rfl | rfl
        · exact ⟨1, by decide +kernel, by omega, by omega⟩
        · exact ⟨2, by decide +kernel, by omega, by omega⟩
        · exact ⟨4, by decide +kernel, by omega, by omega⟩
        · exact ⟨8, by decide +kernel, by omega, by omega⟩
      go_upto_region 6 with fail
      obtain ⟨s0, hs0, hs1⟩ := hs8
      rw [hs0]
      clear hs0 he4
      by_cases hbig : (sd2 : Int) < (s0 : Int)
      · go_upto_region 8 with fail
        have hsz16 : 1 ≤ sd2 ∧ sd2 ≤ 16 := ⟨hw1, hw2⟩
        clear hbig hs1
        go_wp2_with fail
        refine (pick_any p v ns (m' + 1) (sd2 : Int) _ HDa.out.src (by omega) (by omega)).mono ?_
        rintro e wb ⟨⟨x, hx, rfl⟩, hd⟩
        have HDb := Lib.hid (HDa.out.draw hd)
        have hx2 : x < sd2 := by omega
        clear hd HDa hx
        go_wp2_with fail
        refine (pick_any p v ns (m' + 1 + 1) (sd2 : Int) _ HDb.out.src (by omega) (by omega)).mono ?_
        rintro e wc ⟨⟨y, hy, rfl⟩, hd⟩
        have HDc := Lib.hid (HDb.out.draw hd)
        have hy2 : y < sd2 := by omega
        clear hd HDb hy
        go_wp2_with fail
        refine (one_any p v ns (m' + 1 + 1 + 1) 3 _ HDc.out.src (by omega) (by omega)).mono ?_
        rintro e wd ⟨⟨bk, rfl⟩, hd⟩
        have HDd := Lib.hid (HDc.out.draw hd)
        clear hd HDc
        go_wp2_with fail
        refine (one_any p v ns (m' + 1 + 1 + 1 + 1) 2 _ HDd.out.src (by omega) (by omega)).mono ?_
        rintro e we ⟨⟨b2, rfl⟩, hd⟩
        have HDe := Lib.hid (HDd.out.draw hd)
        clear hd HDd
        obtain ⟨m6, hm6, HD6⟩ : ∃ m6, m6 ≤ m + 1 + 5 * (4 - (k - 1)) ∧ Hid (DrSt w we p v ns N m6 bs) := ⟨_, by omega, HDe⟩
        clear HDe
        cases b2 with
        | false =>
          obtain ⟨X, hX⟩ : ∃ X, x = X := ⟨_, rfl⟩
          obtain ⟨Y, hY⟩ : ∃ Y, y = Y := ⟨_, rfl⟩
          rw [hX] at hx2 ⊢
          rw [hY] at hy2 ⊢
          clear hX hY
          have kys : IntKind.i64.wrap ((Y : Int) + (sd2 : Int)) = (Y : Int) + (sd2 : Int) := IntWalk.i64_in _ (by omega)
          have kxs : IntKind.i64.wrap ((X : Int) + (sd2 : Int)) = (X : Int) + (sd2 : Int) := IntWalk.i64_in _ (by omega)
          go_wp2_with fail
          go_loopw [11] (fun iv wr => ∃ (j : Nat) (bs : List Bool), j ≤ 40 ∧ iv = .int .i64 (j : Int) ∧ Hid (DrSt w wr p v ns N m6 bs)) (fun iv _ => 60 - (intOf iv).toNat)
          case atStart => exact ⟨Y, _, by omega, rfl, HD6⟩
          case round =>
            clear HD6
            obtain ⟨j, bs, hj40, rfl, HD⟩ := hrel
            by_cases hj1 : (j : Int) < (Y : Int) + (sd2 : Int)
            · by_cases hj2 : (j : Int) < (sd2 : Int)
              · go_wp2_with fail
                go_loopw [12] (fun iv wr => ∃ (i : Nat) (bs : List Bool), i ≤ 40 ∧ iv = .int .i64 (i : Int) ∧ Hid (DrSt w wr p v ns N m6 bs)) (fun iv _ => 60 - (intOf iv).toNat)
                case atStart => exact ⟨X, _, by omega, rfl, HD⟩
                case round =>
                  clear HD
                  obtain ⟨i, bs, hi40, rfl, HD⟩ := hrel
                  by_cases hi1 : (i : Int) < (X : Int) + (sd2 : Int)
                  · by_cases hi2 : (i : Int) < (sd2 : Int)
                    · have hQN := HX.out i j (by omega) (by omega)
                      have km : (j : Int) * (sd2 : Int) = ((j * sd2 : Nat) : Int) := by push_cast; rfl
                      obtain ⟨Q, hQ⟩ : ∃ z, j * sd2 = z := ⟨_, rfl⟩
                      rw [hQ] at hQN km
                      have k1 : IntKind.i64.wrap ((j : Int) * (sd2 : Int)) = (Q : Int) := by rw [km]; exact IntWalk.i64_in _ (by omega)
                      have k2 : IntKind.i64.wrap ((Q : Int) + (i : Int)) = (Q : Int) + (i : Int) := IntWalk.i64_in _ (by omega)
                      have k3 : (Q : Int) + (i : Int) < (N : Int) := by omega
                      have k4 : (0 : Int) ≤ (Q : Int) + (i : Int) := by omega
                      have k5 : ((Q : Int) + (i : Int)).toNat = Q + i := by omega
                      obtain ⟨u, hu, hf⟩ := HD.out.cell (Q + i) hQN
                      have HD3 := Lib.hid (HD.out.set (Q + i) (!bk))
                      clear HD km hQ
                      go_wp2_with fail
                      go_roundw
                      case rel => exact ⟨i + 1, _, by omega, by go_num, HD3⟩
                      case measure => simp [intOf]; omega
                    · go_wp2_with fail
                      go_roundw
                      case rel => exact ⟨j + 1, _, by omega, by go_num, HD⟩
                      case measure => simp [intOf]; omega
                  · go_wp2_with fail
                    go_roundw
                    case rel => exact ⟨j + 1, _, by omega, by go_num, HD⟩
                    case measure => simp [intOf]; omega
              · go_wp2_with fail
                go_roundw
                case rel => exact ⟨k - 1, m6, _, by omega, by go_num, by omega, HD⟩
                case measure => simp [intOf]; omega
            · go_wp2_with fail
              go_roundw
              case rel => exact ⟨k - 1, m6, _, by omega, by go_num, by omega, HD⟩
              case measure => simp [intOf]; omega
        | true =>
          have kn : ¬ (sd2 : Int) = 0 := by omega
          have krx : Int.tmod (x : Int) (sd2 : Int) = ((x % sd2 : Nat) : Int) := by rw [Int.tmod_eq_emod_of_nonneg (by omega)]; exact (Int.natCast_emod x sd2).symm
          have kry : Int.tmod (y : Int) (sd2 : Int) = ((y % sd2 : Nat) : Int) := by rw [Int.tmod_eq_emod_of_nonneg (by omega)]; exact (Int.natCast_emod y sd2).symm
          have hxl : x % sd2 ≤ x := Nat.mod_le _ _
          have hyl : y % sd2 ≤ y := Nat.mod_le _ _
          obtain ⟨xm, hxm⟩ : ∃ z, x % sd2 = z := ⟨_, rfl⟩
          obtain ⟨ym, hym⟩ : ∃ z, y % sd2 = z := ⟨_, rfl⟩
          rw [hxm] at krx hxl
          rw [hym] at kry hyl
          obtain ⟨X, hX⟩ : ∃ X : Nat, (x : Int) - (xm : Int) = (X : Int) := ⟨x - xm, by omega⟩
          obtain ⟨Y, hY⟩ : ∃ Y : Nat, (y : Int) - (ym : Int) = (Y : Int) := ⟨y - ym, by omega⟩
          have kwx : IntKind.i64.wrap ((x : Int) - (xm : Int)) = (X : Int) := by rw [hX]; exact IntWalk.i64_in _ (by omega)
          have kwy : IntKind.i64.wrap ((y : Int) - (ym : Int)) = (Y : Int) := by rw [hY]; exact IntWalk.i64_in _ (by omega)
          have hX2 : X < sd2 := by omega
          have hY2 : Y < sd2 := by omega
          clear hxm hym hxl hyl hX hY
          have kys : IntKind.i64.wrap ((Y : Int) + (sd2 : Int)) = (Y : Int) + (sd2 : Int) := IntWalk.i64_in _ (by omega)
          have kxs : IntKind.i64.wrap ((X : Int) + (sd2 : Int)) = (X : Int) + (sd2 : Int) := IntWalk.i64_in _ (by omega)
          go_wp2_with fail
          go_loopw [11] (fun iv wr => ∃ (j : Nat) (bs : List Bool), j ≤ 40 ∧ iv = .int .i64 (j : Int) ∧ Hid (DrSt w wr p v ns N m6 bs)) (fun iv _ => 60 - (intOf iv).toNat)
          case atStart => exact ⟨Y, _, by omega, rfl, HD6⟩
          case round =>
            clear HD6
            obtain ⟨j, bs, hj40, rfl, HD⟩ := hrel
            by_cases hj1 : (j : Int) < (Y : Int) + (sd2 : Int)
            · by_cases hj2 : (j : Int) < (sd2 : Int)
              · go_wp2_with fail
                go_loopw [12] (fun iv wr => ∃ (i : Nat) (bs : List Bool), i ≤ 40 ∧ iv = .int .i64 (i : Int) ∧ Hid (DrSt w wr p v ns N m6 bs)) (fun iv _ => 60 - (intOf iv).toNat)
                case atStart => exact ⟨X, _, by omega, rfl, HD⟩
                case round =>
                  clear HD
                  obtain ⟨i, bs, hi40, rfl, HD⟩ := hrel
                  by_cases hi1 : (i : Int) < (X : Int) + (sd2 : Int)
                  · by_cases hi2 : (i : Int) < (sd2 : Int)
                    · have hQN := HX.out i j (by omega) (by omega)
                      have km : (j : Int) * (sd2 : Int) = ((j * sd2 : Nat) : Int) := by push_cast; rfl
                      obtain ⟨Q, hQ⟩ : ∃ z, j * sd2 = z := ⟨_, rfl⟩
                      rw [hQ] at hQN km
                      have k1 : IntKind.i64.wrap ((j : Int) * (sd2 : Int)) = (Q : Int) := by rw [km]; exact IntWalk.i64_in _ (by omega)
                      have k2 : IntKind.i64.wrap ((Q : Int) + (i : Int)) = (Q : Int) + (i : Int) := IntWalk.i64_in _ (by omega)
                      have k3 : (Q : Int) + (i : Int) < (N : Int) := by omega
                      have k4 : (0 : Int) ≤ (Q : Int) + (i : Int) := by omega
                      have k5 : ((Q : Int) + (i : Int)).toNat = Q + i := by omega
                      obtain ⟨u, hu, hf⟩ := HD.out.cell (Q + i) hQN
                      have HD3 := Lib.hid (HD.out.set (Q + i) (!bk))
                      clear HD km hQ
                      go_wp2_with fail
                      go_roundw
                      case rel => exact ⟨i + 1, _, by omega, by go_num, HD3⟩
                      case measure => simp [intOf]; omega
                    · go_wp2_with fail
                      go_roundw
                      case rel => exact ⟨j + 1, _, by omega, by go_num, HD⟩
                      case measure => simp [intOf]; omega
                  · go_wp2_with fail
                    go_roundw
                    case rel => exact ⟨j + 1, _, by omega, by go_num, HD⟩
                    case measure => simp [intOf]; omega
              · go_wp2_with fail
                go_roundw
                case rel => exact ⟨k - 1, m6, _, by omega, by go_num, by omega, HD⟩
                case measure => simp [intOf]; omega
            · go_wp2_with fail
              go_roundw
              case rel => exact ⟨k - 1, m6, _, by omega, by go_num, by omega, HD⟩
              case measure => simp [intOf]; omega
      · go_upto_region 8 with fail
        obtain ⟨sz, hsz⟩ : ∃ z, s0 = z := ⟨_, rfl⟩
        have hsz16 : 1 ≤ sz ∧ sz ≤ 16 := by omega
        rw [hsz]
        clear hbig hs1 hsz
        go_wp2_with fail
        refine (pick_any p v ns (m' + 1) (sd2 : Int) _ HDa.out.src (by omega) (by omega)).mono ?_
        rintro e wb ⟨⟨x, hx, rfl⟩, hd⟩
        have HDb := Lib.hid (HDa.out.draw hd)
        have hx2 : x < sd2 := by omega
        clear hd HDa hx
        go_wp2_with fail
        refine (pick_any p v ns (m' + 1 + 1) (sd2 : Int) _ HDb.out.src (by omega) (by omega)).mono ?_
        rintro e wc ⟨⟨y, hy, rfl⟩, hd⟩
        have HDc := Lib.hid (HDb.out.draw hd)
        have hy2 : y < sd2 := by omega
        clear hd HDb hy
        go_wp2_with fail
        refine (one_any p v ns (m' + 1 + 1 + 1) 3 _ HDc.out.src (by omega) (by omega)).mono ?_
        rintro e wd ⟨⟨bk, rfl⟩, hd⟩
        have HDd := Lib.hid (HDc.out.draw hd)
        clear hd HDc
        go_wp2_with fail
        refine (one_any p v ns (m' + 1 + 1 + 1 + 1) 2 _ HDd.out.src (by omega) (by omega)).mono ?_
        rintro e we ⟨⟨b2, rfl⟩, hd⟩
        have HDe := Lib.hid (HDd.out.draw hd)
        clear hd HDd
        obtain ⟨m6, hm6, HD6⟩ : ∃ m6, m6 ≤ m + 1 + 5 * (4 - (k - 1)) ∧ Hid (DrSt w we p v ns N m6 bs) := ⟨_, by omega, HDe⟩
        clear HDe
        cases b2 with
        | false =>
          obtain ⟨X, hX⟩ : ∃ X, x = X := ⟨_, rfl⟩
          obtain ⟨Y, hY⟩ : ∃ Y, y = Y := ⟨_, rfl⟩
          rw [hX] at hx2 ⊢
          rw [hY] at hy2 ⊢
          clear hX hY
          have kys : IntKind.i64.wrap ((Y : Int) + (sz : Int)) = (Y : Int) + (sz : Int) := IntWalk.i64_in _ (by omega)
          have kxs : IntKind.i64.wrap ((X : Int) + (sz : Int)) = (X : Int) + (sz : Int) := IntWalk.i64_in _ (by omega)
          go_wp2_with fail
          go_loopw [11] (fun iv wr => ∃ (j : Nat) (bs : List Bool), j ≤ 40 ∧ iv = .int .i64 (j : Int) ∧ Hid (DrSt w wr p v ns N m6 bs)) (fun iv _ => 60 - (intOf iv).toNat)
          case atStart => exact ⟨Y, _, by omega, rfl, HD6⟩
          case round =>
            clear HD6
            obtain ⟨j, bs, hj40, rfl, HD⟩ := hrel
            by_cases hj1 : (j : Int) < (Y : Int) + (sz : Int)
            · by_cases hj2 : (j : Int) < (sd2 : Int)
              · go_wp2_with fail
                go_loopw [12] (fun iv wr => ∃ (i : Nat) (bs : List Bool), i ≤ 40 ∧ iv = .int .i64 (i : Int) ∧ Hid (DrSt w wr p v ns N m6 bs)) (fun iv _ => 60 - (intOf iv).toNat)
                case atStart => exact ⟨X, _, by omega, rfl, HD⟩
                case round =>
                  clear HD
                  obtain ⟨i, bs, hi40, rfl, HD⟩ := hrel
                  by_cases hi1 : (i : Int) < (X : Int) + (sz : Int)
                  · by_cases hi2 : (i : Int) < (sd2 : Int)
                    · have hQN := HX.out i j (by omega) (by omega)
                      have km : (j : Int) * (sd2 : Int) = ((j * sd2 : Nat) : Int) := by push_cast; rfl
                      obtain ⟨Q, hQ⟩ : ∃ z, j * sd2 = z := ⟨_, rfl⟩
                      rw [hQ] at hQN km
                      have k1 : IntKind.i64.wrap ((j : Int) * (sd2 : Int)) = (Q : Int) := by rw [km]; exact IntWalk.i64_in _ (by omega)
                      have k2 : IntKind.i64.wrap ((Q : Int) + (i : Int)) = (Q : Int) + (i : Int) := IntWalk.i64_in _ (by omega)
                      have k3 : (Q : Int) + (i : Int) < (N : Int) := by omega
                      have k4 : (0 : Int) ≤ (Q : Int) + (i : Int) := by omega
                      have k5 : ((Q : Int) + (i : Int)).toNat = Q + i := by omega
                      obtain ⟨u, hu, hf⟩ := HD.out.cell (Q + i) hQN
                      have HD3 := Lib.hid (HD.out.set (Q + i) (!bk))
                      clear HD km hQ
                      go_wp2_with fail
                      go_roundw
                      case rel => exact ⟨i + 1, _, by omega, by go_num, HD3⟩
                      case measure => simp [intOf]; omega
                    · go_wp2_with fail
                      go_roundw
                      case rel => exact ⟨j + 1, _, by omega, by go_num, HD⟩
                      case measure => simp [intOf]; omega
                  · go_wp2_with fail
                    go_roundw
                    case rel => exact ⟨j + 1, _, by omega, by go_num, HD⟩
                    case measure => simp [intOf]; omega
              · go_wp2_with fail
                go_roundw
                case rel => exact ⟨k - 1, m6, _, by omega, by go_num, by omega, HD⟩
                case measure => simp [intOf]; omega
            · go_wp2_with fail
              go_roundw
              case rel => exact ⟨k - 1, m6, _, by omega, by go_num, by omega, HD⟩
              case measure => simp [intOf]; omega
        | true =>
          have kn : ¬ (sz : Int) = 0 := by omega
          have krx : Int.tmod (x : Int) (sz : Int) = ((x % sz : Nat) : Int) := by rw [Int.tmod_eq_emod_of_nonneg (by omega)]; exact (Int.natCast_emod x sz).symm
          have kry : Int.tmod (y : Int) (sz : Int) = ((y % sz : Nat) : Int) := by rw [Int.tmod_eq_emod_of_nonneg (by omega)]; exact (Int.natCast_emod y sz).symm
          have hxl : x % sz ≤ x := Nat.mod_le _ _
          have hyl : y % sz ≤ y := Nat.mod_le _ _
          obtain ⟨xm, hxm⟩ : ∃ z, x % sz = z := ⟨_, rfl⟩
          obtain ⟨ym, hym⟩ : ∃ z, y % sz = z := ⟨_, rfl⟩
          rw [hxm] at krx hxl
          rw [hym] at kry hyl
          obtain ⟨X, hX⟩ : ∃ X : Nat, (x : Int) - (xm : Int) = (X : Int) := ⟨x - xm, by omega⟩
          obtain ⟨Y, hY⟩ : ∃ Y : Nat, (y : Int) - (ym : Int) = (Y : Int) := ⟨y - ym, by omega⟩
          have kwx : IntKind.i64.wrap ((x : Int) - (xm : Int)) = (X : Int) := by rw [hX]; exact IntWalk.i64_in _ (by omega)
          have kwy : IntKind.i64.wrap ((y : Int) - (ym : Int)) = (Y : Int) := by rw [hY]; exact IntWalk.i64_in _ (by omega)
          have hX2 : X < sd2 := by omega
          have hY2 : Y < sd2 := by omega
          clear hxm hym hxl hyl hX hY
          have kys : IntKind.i64.wrap ((Y : Int) + (sz : Int)) = (Y : Int) + (sz : Int) := IntWalk.i64_in _ (by omega)
          have kxs : IntKind.i64.wrap ((X : Int) + (sz : Int)) = (X : Int) + (sz : Int) := IntWalk.i64_in _ (by omega)
          go_wp2_with fail
          go_loopw [11] (fun iv wr => ∃ (j : Nat) (bs : List Bool), j ≤ 40 ∧ iv = .int .i64 (j : Int) ∧ Hid (DrSt w wr p v ns N m6 bs)) (fun iv _ => 60 - (intOf iv).toNat)
          case atStart => exact ⟨Y, _, by omega, rfl, HD6⟩
          case round =>
            clear HD6
            obtain ⟨j, bs, hj40, rfl, HD⟩ := hrel
            by_cases hj1 : (j : Int) < (Y : Int) + (sz : Int)
            · by_cases hj2 : (j : Int) < (sd2 : Int)
              · go_wp2_with fail
                go_loopw [12] (fun iv wr => ∃ (i : Nat) (bs : List Bool), i ≤ 40 ∧ iv = .int .i64 (i : Int) ∧ Hid (DrSt w wr p v ns N m6 bs)) (fun iv _ => 60 - (intOf iv).toNat)
                case atStart => exact ⟨X, _, by omega, rfl, HD⟩
                case round =>
                  clear HD
                  obtain ⟨i, bs, hi40, rfl, HD⟩ := hrel
                  by_cases hi1 : (i : Int) < (X : Int) + (sz : Int)
                  · by_cases hi2 : (i : Int) < (sd2 : Int)
                    · have hQN := HX.out i j (by omega) (by omega)
                      have km : (j : Int) * (sd2 : Int) = ((j * sd2 : Nat) : Int) := by push_cast; rfl
                      obtain ⟨Q, hQ⟩ : ∃ z, j * sd2 = z := ⟨_, rfl⟩
                      rw [hQ] at hQN km
                      have k1 : IntKind.i64.wrap ((j : Int) * (sd2 : Int)) = (Q : Int) := by rw [km]; exact IntWalk.i64_in _ (by omega)
                      have k2 : IntKind.i64.wrap ((Q : Int) + (i : Int)) = (Q : Int) + (i : Int) := IntWalk.i64_in _ (by omega)
                      have k3 : (Q : Int) + (i : Int) < (N : Int) := by omega
                      have k4 : (0 : Int) ≤ (Q : Int) + (i : Int) := by omega
                      have k5 : ((Q : Int) + (i : Int)).toNat = Q + i := by omega
                      obtain ⟨u, hu, hf⟩ := HD.out.cell (Q + i) hQN
                      have HD3 := Lib.hid (HD.out.set (Q + i) (!bk))
                      clear HD km hQ
                      go_wp2_with fail
                      go_roundw
                      case rel => exact ⟨i + 1, _, by omega, by go_num, HD3⟩
                      case measure => simp [intOf]; omega
                    · go_wp2_with fail
                      go_roundw
                      case rel => exact ⟨j + 1, _, by omega, by go_num, HD⟩
                      case measure => simp [intOf]; omega
                  · go_wp2_with fail
                    go_roundw
                    case rel => exact ⟨j + 1, _, by omega, by go_num, HD⟩
                    case measure => simp [intOf]; omega
              · go_wp2_with fail
                go_roundw
                case rel => exact ⟨k - 1, m6, _, by omega, by go_num, by omega, HD⟩
                case measure => simp [intOf]; omega
            · go_wp2_with fail
              go_roundw
              case rel => exact ⟨k - 1, m6, _, by omega, by go_num, by omega, HD⟩
              case measure => simp [intOf]; omega
    · obtain rfl : k = 0 := by omega
      have HBo := Lib.hid (own_bools HD.out.own HD.out.len)
      have HLn := Lib.hid HD.out.len
      have C := Lib.hid (CM.out N bs _ HLn.out HBo.out rfl)
      go_wp2_with fail
      refine C.out.mono ?_
      rintro e w4 ⟨g, cap, rfl, hown, hb4⟩
      have hl := HD.out.lt
      have hsz := HD.out.far.size
      have hp4 := (hb4.block _ (Array.getElem?_eq_some_iff.1 HD.out.pic).1).trans HD.out.pic
      have hfr := free_of_one hp4
      have hc4 := cell_of_one hp4
      have HF := Lib.hid ((HD.out.far.trans ⟨hb4.os, hb4.tape, hb4.output, hb4.size, fun k hk _ => hb4.block k hk⟩ : Far p (p + 1) w w4).setCell w.heap.size 0 (.slice (some ⟨g, 0, none⟩) sd2 cap) (Nat.le_refl _))
      have HSs := Lib.hid (((HD.out.src.bel hb4 HD.out.src.lt).bel ((Below.refl w.heap.size w4).setCell (p := ⟨w.heap.size, 0, none⟩) (Nat.le_refl _) (.slice (some ⟨g, 0, none⟩) sd2 cap)) hl).more (show m' ≤ m + 300 by omega))
      have HO := Lib.hid (Joins.ownsRow_le (own_set (u := .slice (some ⟨g, 0, none⟩) sd2 cap) hown hp4 (by decide)) hsz)
      have HPo : Hid ((w4.setCell ⟨w.heap.size, 0, none⟩ (.slice (some ⟨g, 0, none⟩) sd2 cap)).cell? ⟨w.heap.size, 0, none⟩ = some (.slice (some ⟨g, 0, none⟩) sd2 cap)) := cell_of_one (one_setCell hp4)
      obtain ⟨ff, hff⟩ : ∃ ff : Nat → Nat → Bool, (fun y x => bs.getD (y * sd2 + x) false) = ff := ⟨_, rfl⟩
      rw [hff] at HO
      clear hown hb4 hp4 hff HD hsz HBo HLn CM C
      go_wp2_with fail
      exact bodyPost_ret (v := .agg #[.slice (some ⟨g, 0, none⟩) sd2 cap]) (by simp [results, Tryd.results54, go_sem, HPo.out]) rfl ⟨ff, g, cap, rfl, HO.out, HSs.out, HF.out⟩
end Go.Proofs.YthblhibkbcmbaaaDoor
