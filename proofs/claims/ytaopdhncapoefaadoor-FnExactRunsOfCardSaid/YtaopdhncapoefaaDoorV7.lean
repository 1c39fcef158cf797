/- Contracts of single functions, and plain lemmas, on which the exact laws of this seat rest; each holds under the conditions that it states. -/
import Derived.Test.YtaopdhncapoefaaDoorV6
import Derived.Test.YtaopdhncapoefaaDoorSp
namespace Go.Proofs.YtaopdhncapoefaaDoor
set_option linter.unusedVariables false
set_option linter.unusedSimpArgs false
open Go.RowKit

theorem pixI_in' (ss : List ByteArray) (x y : Int) (h : pixI ss x y = true) : (0 ≤ x ∧ x < ((row0 ss).size : Nat)) ∧ (0 ≤ y ∧ y < (ss.length : Nat)) := by
  unfold pixI insB inB at h
  simp at h
  omega
theorem OwnL.fresh (w : World) : OwnL (w.alloc (.cells #[] 32)) w.heap.size (w.alloc (.cells #[] 32)).heap.size (.slice (some ⟨w.heap.size, 0, none⟩) 0 0) (fun _ => .slice none 0 0) [] :=
  ⟨World.ownsRow_lit (base := w.heap.size) (e := 32) (size := 1) w #[] 0 (Nat.le_refl _) (by unfold maxLen; omega) rfl, fun i h => absurd h (Nat.not_lt_zero i), fun i h => absurd h (Nat.not_lt_zero i), fun k e => by
    have : w.heap.size = k := by simpa [Value.ownBlock] using e
    simp
    omega, fun i j h => absurd h (Nat.not_lt_zero i)⟩

set_option maxHeartbeats 4000000 in
set_option maxRecDepth 100000 in
theorem l04Runs_any (pb : Nat) (ss : List ByteArray) (w : World) (hpb : pb < w.heap.size) (V : VP ss) (hp : ∀ W, Below w.heap.size w W → PicAt W pb 0 ss) :
    Calls Tryd.prog 54 #[.pointer (some ⟨pb, 0, none⟩)] w (MadeL (runsL (fun y x => pixI ss (x : Int) (y : Int)) ss.length) w) := by
  obtain ⟨i0, hi, hz0, hz1, hz2⟩ := info_parts infoSl
  have hn16 := V.n16
  have hw16 := V.w16
  have CH := Lib.hid (fun W (h : Below w.heap.size w W) => l01Height_any pb 0 ss W (hp W h))
  have CW := Lib.hid (fun W (h : Below w.heap.size w W) => l01Width_any pb 0 ss W (hp W h))
  have CB := Lib.hid (fun x y W (h : Below w.heap.size w W) => l01Black_any pb 0 ss x y W (hp W h))
  have HIn := Lib.hid (fun x y h => pixI_in' ss x y h)
  obtain ⟨p, hpp⟩ : ∃ p, pixI ss = p := ⟨_, rfl⟩
  rw [hpp] at CB HIn ⊢
  obtain ⟨a, ha⟩ : ∃ a, (row0 ss).size = a := ⟨_, rfl⟩
  obtain ⟨b, hbb⟩ : ∃ a, ss.length = a := ⟨_, rfl⟩
  rw [ha] at hw16 CW HIn
  rw [hbb] at hn16 CH HIn ⊢
  obtain ⟨R, hR⟩ : ∃ R : Nat → Nat → Bool, (fun (y x : Nat) => p (x : Int) (y : Int)) = R := ⟨_, rfl⟩
  have HRe : Hid (∀ x y : Nat, p (x : Int) (y : Int) = R y x) := fun x y => congrFun (congrFun hR y) x
  rw [hR]
  have HOut : Hid (∀ x y : Nat, a ≤ x → R y x = false) := fun x y h => by
    rw [← HRe.out]
    cases e : p (x : Int) (y : Int) with
    | false => rfl
    | true => have := (HIn.out _ _ e).1.2; omega
  have HLn := Lib.hid (fun y => runsL_len R y)
  have HF := Lib.hid (OwnL.fresh w)
  clear hpp ha hbb hR V hp HIn
  go_enter Tryd.func54, Tryd.ntmps54
  go_wp2
  go_loopw [3, 4] (fun ov yv wr => ∃ y : Nat, y ≤ b ∧ yv = .int .i64 y ∧ (∃ ao m cap, ov = .slice ao m cap) ∧ (∃ us, Hid (OwnL wr w.heap.size wr.heap.size ov us (runsL R y))) ∧ Hid (Below w.heap.size w wr)) (fun _ yv _ => b - (intOf yv).toNat)
  case atStart => exact ⟨0, Nat.zero_le _, rfl, ⟨_, _, _, rfl⟩, ⟨_, HF.out⟩, Joins.below_alloc1 _ _⟩
  case round =>
    clear HF
    obtain ⟨y, hy, rfl, ⟨ao, m, cap, rfl⟩, ⟨us, HO⟩, HB⟩ := hrel
    go_wp2_with fail
    refine (CH.out _ HB.out).mono ?_
    rintro e w2 ⟨rfl, rfl⟩
    by_cases hlt : y < b
    · have klt : (y : Int) < (b : Int) := by omega
      have hln := HLn.out y
      have hrs : runsL R (y + 1) = runsL R y ++ rowR (R y) y 17 := rfl
      obtain ⟨P, hP⟩ : ∃ P, runsL R y = P := ⟨_, rfl⟩
      rw [hP] at hrs hln HO
      have HRs := Lib.hid hrs
      have HO1 : Hid (OwnL wr w.heap.size wr.heap.size (.slice ao m cap) us (P ++ rowR (R y) y 0)) := by show OwnL _ _ _ _ _ (P ++ []); rw [List.append_nil]; exact HO.out
      clear hrs hP HO
      go_wp2_with fail
      go_loopw [3, 5] (fun ov xv wr => ∃ t : Nat, t ≤ a + 1 ∧ bk (R y) t = 0 ∧ xv = .int .i64 t ∧ (∃ ao m cap, ov = .slice ao m cap) ∧ (∃ us, Hid (OwnL wr w.heap.size wr.heap.size ov us (P ++ rowR (R y) y t))) ∧ Hid (Below w.heap.size w wr)) (fun _ xv _ => a + 1 - (intOf xv).toNat)
      case atStart => exact ⟨0, Nat.zero_le _, rfl, rfl, ⟨_, _, _, rfl⟩, ⟨_, HO1⟩, HB⟩
      case round =>
        clear HO1 HB
        obtain ⟨t, ht, hbk, rfl, ⟨ao, m, cap, rfl⟩, ⟨us, HO⟩, HB⟩ := hrel
        go_wp2_with fail
        refine (CW.out _ HB.out).mono ?_
        rintro e w2 ⟨rfl, rfl⟩
        by_cases hta : t < a
        · have kta : (t : Int) < (a : Int) := by omega
          go_wp2_with fail
          refine (CB.out _ _ _ HB.out).mono ?_
          rintro e w2 ⟨rfl, rfl⟩
          rw [HRe.out]
          cases hrt : R y t with
          | false =>
            have hw := rl_white hbk hrt
            have hbk2 := hw.2
            have HO2 : Hid (OwnL wr w.heap.size wr.heap.size (.slice ao m cap) us (P ++ rowR (R y) y (t + 1))) := by
              have : rowR (R y) y (t + 1) = rowR (R y) y t := by unfold rowR; rw [hw.1]
              rw [this]
              exact HO.out
            clear hw HO hrt hbk
            go_wp2
            go_roundw
            case rel => exact ⟨t + 1, by omega, hbk2, by go_num, ⟨_, _, _, rfl⟩, ⟨_, HO2⟩, HB⟩
            case measure => simp [intOf]; omega
          | true =>
            have HT0 := Lib.hid hrt
            clear hrt
            go_wp2_with fail
            go_loop [5] (fun xv => ∃ z : Nat, t ≤ z ∧ z ≤ a ∧ xv = .int .i64 z ∧ Hid (∀ i, t ≤ i → i < z → R y i = true)) (fun xv => a - (intOf xv).toNat)
            case atStart => exact ⟨t, by omega, by omega, rfl, fun i h1 h2 => absurd h2 (by omega)⟩
            case round =>
              obtain ⟨z, htz, hza, rfl, HT⟩ := hrel
              go_wp2_with fail
              refine (CB.out _ _ _ HB.out).mono ?_
              rintro e w2 ⟨rfl, rfl⟩
              rw [HRe.out]
              cases hrz : R y z with
              | true =>
                have hzlt : z < a := by
                  apply Nat.lt_of_not_le
                  intro h
                  rw [HOut.out z y h] at hrz
                  cases hrz
                have HT2 : Hid (∀ i, t ≤ i → i < z + 1 → R y i = true) := fun i h1 h2 => by
                  by_cases e : i = z
                  · subst e; exact hrz
                  · exact HT.out i h1 (by omega)
                clear hrz HT
                go_wp2
                go_round
                case rel => exact ⟨z + 1, by omega, by omega, by go_num, HT2⟩
                case measure => simp [intOf]; omega
              | false =>
                have htz2 : t < z := by
                  apply Nat.lt_of_not_le
                  intro h
                  obtain rfl : z = t := by omega
                  rw [HT0.out] at hrz
                  cases hrz
                have hrl := rl_next (r := R y) (t := t) (s := t) (l := z - t) hbk (Nat.le_refl _) (fun i h1 h2 => absurd h2 (by omega)) (by omega) (fun i h1 h2 => HT.out i h1 (by omega)) (by rw [show t + (z - t) = z from by omega]; exact hrz)
                rw [show t + (z - t) + 1 = z + 1 from by omega] at hrl
                have hbk2 := hrl.2
                have hrow : P ++ rowR (R y) y (z + 1) = (P ++ rowR (R y) y t) ++ [[(y : Int), (t : Int), (z : Int) - (t : Int)]] := by
                  unfold rowR
                  rw [hrl.1, List.map_append, List.append_assoc]
                  simp only [List.map_cons, List.map_nil]
                  rw [show ((z - t : Nat) : Int) = (z : Int) - (t : Int) from by omega]
                have hlen : (P ++ rowR (R y) y t).length ≤ 17 * 17 := by
                  have := rowR_len (R y) y t
                  rw [List.length_append]
                  omega
                have HRow := Lib.hid hrow
                obtain ⟨X, hX⟩ : ∃ X, P ++ rowR (R y) y t = X := ⟨_, rfl⟩
                rw [hX] at HO HRow hlen
                have hsB := HB.out.size
                obtain ⟨q, hq⟩ : ∃ q : Int, (z : Int) - (t : Int) = q := ⟨_, rfl⟩
                rw [hq] at HRow
                have hr1 := OwnR.row HO.out
                have hr2 := World.ownsRow.alloc (World.ownsRow.alloc hr1 (.cells #[.int .i64 y, .int .i64 t, .int .i64 q] 2)) (.cells #[.slice (some ⟨wr.heap.size, 0, none⟩) 3 3] 32)
                have HR2 := Lib.hid hr2
                have hnew := cell_one_new (wr.alloc (.cells #[.int .i64 y, .int .i64 t, .int .i64 q] 2)) (.slice (some ⟨wr.heap.size, 0, none⟩) 3 3) 32
                rw [World.size_alloc] at hnew
                have HNew := Lib.hid hnew
                clear hrl hrow hX hr1 hr2 hnew hbk hrz HT
                go_wp2_with (at_builtin; refine wpList_append_own _ rfl _ _ 43 rfl w.heap.size 32 i0 (.slice none 0 0) 1 24 Tryd.underlying43 hi hz0 hz1 hz2 rfl (by decide) _ _ _ rfl HR2.out ⟨wr.heap.size + 1, 0, none⟩ 1 1 [.slice (some ⟨wr.heap.size, 0, none⟩) 3 3] rfl rfl HNew.out (by intro u hu; simp at hu; subst hu; rfl) (by unfold maxLen; omega) (by omega) (by simp; omega) ?_)
                intro v' w5 hown' hgr _
                have hb5 : Below w.heap.size w w5 := ((HB.out.alloc hsB _).alloc (by simp; omega) _).grown hgr (by simp; omega) (fun k hk => (HR2.out.lt k hk).1)
                have HB5 := Lib.hid hb5
                obtain ⟨us5, ho5⟩ := OwnL.snoc HO.out hsB #[.int .i64 y, .int .i64 t, .int .i64 q] [(y : Int), (t : Int), q] rfl (by unfold maxLen; simp) _ hown' hgr
                have HO5 := Lib.hid ho5
                obtain ⟨g', c', rfl⟩ := Joins.ownsRow_form hown' (by omega)
                clear hown' hgr hb5 ho5 HR2 HNew HO HB
                rw [← HRow.out] at HO5
                go_wp2
                go_roundw
                case rel => exact ⟨z + 1, by omega, hbk2, by go_num, ⟨_, _, _, rfl⟩, ⟨_, HO5⟩, HB5⟩
                case measure => simp [intOf]; omega
        · have kta : ¬ (t : Int) < (a : Int) := by omega
          have e17 : rowR (R y) y 17 = rowR (R y) y t := by
            unfold rowR
            have := (rl_gap hbk (17 - t) (fun i h1 _ => HOut.out i y (by omega))).1
            rw [show t + (17 - t) = 17 from by omega] at this
            rw [this]
          have hfin := HRs.out
          rw [e17] at hfin
          have HO2 := HO
          rw [← hfin] at HO2
          clear e17 hfin HO
          go_wp2
          go_roundw
          case rel => exact ⟨y + 1, by omega, by go_num, ⟨_, _, _, rfl⟩, ⟨_, HO2⟩, HB⟩
          case measure => simp [intOf]; omega
    · obtain rfl : y = b := by omega
      have kx : ¬ (y : Int) < (y : Int) := by omega
      go_wp2
      go_ret
      exact ⟨_, _, rfl, HO.out, HB.out⟩
end Go.Proofs.YtaopdhncapoefaaDoor
