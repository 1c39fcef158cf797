/- Contracts of single functions, and plain lemmas, on which the exact laws of this seat rest; each holds under the conditions that it states. -/
import Derived.Test.YtaopdhncapoefaaDoorV5
import Derived.Test.YtaopdhncapoefaaDoorMm
import Derived.Test.YtaopdhncapoefaaDoorMc
import Derived.Test.YtaopdhncapoefaaDoorCc
namespace Go.Proofs.YtaopdhncapoefaaDoor
set_option linter.unusedVariables false
set_option linter.unusedSimpArgs false
open Go.RowKit

theorem not_bits (H s : Nat) (hH : H < 4294967296) : bits .xor .u32 IntKind.u32.max ((H : Int) / (2 : Int) ^ s) = ((4294967295 - H >>> s : Nat) : Int) := by
  have hA : H >>> s < 4294967296 := by
    rw [Nat.shiftRight_eq_div_pow]
    exact Nat.lt_of_le_of_lt (Nat.div_le_self _ _) hH
  have e : (H : Int) / (2 : Int) ^ s = ((H >>> s : Nat) : Int) := by rw [Nat.shiftRight_eq_div_pow]; simp
  rw [e, show (IntKind.u32.max : Int) = ((4294967295 : Nat) : Int) from rfl, u32_xor_nat _ _ (by omega) hA]
  congr 1
  apply Nat.eq_of_testBit_eq
  intro j
  have h1 := Nat.testBit_two_pow_sub_succ (x := H >>> s) (n := 32) (by omega) j
  rw [show 2 ^ 32 - (H >>> s + 1) = 4294967295 - H >>> s from by omega] at h1
  have h2 := Nat.testBit_two_pow_sub_one 32 j
  rw [show 2 ^ 32 - 1 = 4294967295 from rfl] at h2
  rw [h1, Nat.testBit_xor, h2]
  by_cases h : j < 32
  · simp [h]
  · rw [Nat.testBit_lt_two_pow (x := H >>> s) (Nat.lt_of_lt_of_le hA (by
      have : 2 ^ 32 ≤ 2 ^ j := Nat.pow_le_pow_right (by omega) (by omega)
      omega))]
    simp [h]

theorem less_bits (H l s : Nat) (hH : H < 4294967296) (hsl : s + l ≤ 16) : bits .andNot .u32 (H : Int) (((2 ^ l - 1 : Nat) : Int) * (2 : Int) ^ s % 4294967296) = ((lessW H ((2 ^ l - 1) <<< s) : Nat) : Int) := by
  have h1 : 2 ^ l * 2 ^ s ≤ 2 ^ 16 := by rw [← Nat.pow_add]; exact Nat.pow_le_pow_right (by omega) (by omega)
  have h2 : (2 ^ l - 1) * 2 ^ s ≤ 2 ^ l * 2 ^ s := Nat.mul_le_mul (Nat.sub_le _ _) (Nat.le_refl _)
  have e : ((2 ^ l - 1 : Nat) : Int) * (2 : Int) ^ s = (((2 ^ l - 1) <<< s : Nat) : Int) := by
    rw [Nat.shiftLeft_eq, Int.natCast_mul]
    congr 1
    all_goals (push_cast; try rfl)
  rw [e]
  rw [← Nat.shiftLeft_eq] at h2
  obtain ⟨m, hm⟩ : ∃ m, (2 ^ l - 1) <<< s = m := ⟨_, rfl⟩
  rw [hm] at h2 ⊢
  have hm2 : m < 4294967296 := by omega
  rw [show (m : Int) % 4294967296 = (m : Int) from by omega, u32_andNot_nat H m hH hm2, less_and H m hH hm2]

/-- rows of the call's own handed back -/
def MadeL (xss : List (List Int)) (w : World) (e : Ending) (w' : World) : Prop := ∃ v us, e = .returned v ∧ OwnL w' w.heap.size w'.heap.size v us xss ∧ Below w.heap.size w w'

set_option maxHeartbeats 4000000 in
set_option maxRecDepth 100000 in
theorem runs_any (M : Array Value) (a b : Nat) (g : Nat → Nat) (w : World) (hC : M = mat a b g) (hb : b ≤ 16) (hg : ∀ j, g j < 65536) (hT : TabW w) :
    Calls Tryd.prog 55 #[.agg M] w (MadeL (runsL (fun y => (g y).testBit) b) w) := by
  obtain ⟨i0, hi, hz0, hz1, hz2⟩ := info_parts infoSl
  have hb0 := Joins.below_alloc1 w (.cells M 58)
  have hm : (w.alloc (.cells M 58)).heap[w.heap.size]? = some (.cells M 58 (0, 0)) := heap_alloc_last w _
  have HM : Hid (∀ W, Below (w.alloc (.cells M 58)).heap.size (w.alloc (.cells M 58)) W → ∀ y, y < 16 → W.cell? ⟨w.heap.size, 2 + y, none⟩ = some (.int .u32 (g y))) := fun W h y hy => by
    have h1 := (h.block _ (by simp)).trans hm
    rw [Joins.cell_of_block h1, hC]
    exact mat_word a b g y hy
  have c1 : (w.alloc (.cells M 58)).cell? ⟨w.heap.size, 1, none⟩ = some (.int .i64 b) := by rw [Joins.cell_of_block hm, hC]; rfl
  have HT : Hid (∀ W, Below (w.alloc (.cells M 58)).heap.size (w.alloc (.cells M 58)) W → TabW W) := fun W h => (hT.below hb0).below h
  have HG := Lib.hid hg
  have HB0 := Lib.hid hb0
  have HLn := Lib.hid (fun y => runsL_len (fun y => (g y).testBit) y)
  obtain ⟨W1, hW1⟩ : ∃ W1, w.alloc (.cells M 58) = W1 := ⟨_, rfl⟩
  have hs1 : W1.heap.size = w.heap.size + 1 := by rw [← hW1]; simp
  rw [hW1] at HM HT HB0
  have HW1 := Lib.hid hW1
  have HS1 := Lib.hid hs1
  clear hg hC hT hm hb0 hW1 hs1
  go_enter Tryd.func55, Tryd.ntmps55
  go_wp2
  rw [HW1.out]
  clear HW1 c1
  go_loopw [3, 10] (fun ov yv wr => ∃ y : Nat, y ≤ b ∧ yv = .int .i64 y ∧ (∃ ao m cap, ov = .slice ao m cap) ∧ (∃ us, Hid (OwnL wr W1.heap.size wr.heap.size ov us (runsL (fun y => (g y).testBit) y))) ∧ Hid (Below W1.heap.size W1 wr)) (fun _ yv _ => b - (intOf yv).toNat)
  case atStart => exact ⟨0, Nat.zero_le _, rfl, ⟨_, _, _, rfl⟩, ⟨_, OwnL.start _ _ _⟩, Below.refl _ _⟩
  case round =>
    obtain ⟨y, hy, rfl, ⟨ao, m, cap, rfl⟩, ⟨us, HO⟩, HB⟩ := hrel
    by_cases hlt : y < b
    · have klt : (y : Int) < (b : Int) := by omega
      have cy := HM.out wr HB.out y (by omega)
      have hgy := HG.out y
      have hln := HLn.out y
      have hz := hiW_zero (g y)
      have hrs : runsL (fun y => (g y).testBit) (y + 1) = runsL (fun y => (g y).testBit) y ++ rowR (g y).testBit y 17 := rfl
      obtain ⟨K, hK⟩ : ∃ K, g y = K := ⟨_, rfl⟩
      rw [hK] at cy hgy hz hrs
      obtain ⟨P, hP⟩ : ∃ P, runsL (fun y => (g y).testBit) y = P := ⟨_, rfl⟩
      rw [hP] at hrs hln HO
      have HRs := Lib.hid hrs
      have HZ := Lib.hid hz
      have HO1 : Hid (OwnL wr W1.heap.size wr.heap.size (.slice ao m cap) us (P ++ rowR K.testBit y 0)) := by show OwnL _ _ _ _ _ (P ++ []); rw [List.append_nil]; exact HO.out
      clear hrs hz hK hP HO
      go_wp2_with fail
      go_loopw [3, 5] (fun ov rv wr => ∃ t : Nat, t ≤ 17 ∧ bk K.testBit t = 0 ∧ rv = .int .u32 ((hiW K t : Nat) : Int) ∧ (∃ ao m cap, ov = .slice ao m cap) ∧ (∃ us, Hid (OwnL wr W1.heap.size wr.heap.size ov us (P ++ rowR K.testBit y t))) ∧ Hid (Below W1.heap.size W1 wr)) (fun _ rv _ => (intOf rv).toNat)
      case atStart => exact ⟨0, Nat.zero_le _, rfl, by rw [HZ.out], ⟨_, _, _, rfl⟩, ⟨_, HO1⟩, HB⟩
      case round =>
        clear HO1 HB
        obtain ⟨t, ht, hbk, rfl, ⟨ao, m, cap, rfl⟩, ⟨us, HO⟩, HB⟩ := hrel
        by_cases h0 : hiW K t = 0
        · have kt : (((hiW K t : Nat) : Int) != 0) = false := by rw [h0]; rfl
          have e17 : rowR K.testBit y 17 = rowR K.testBit y t := by
            unfold rowR
            have := (rl_gap hbk (17 - t) (fun i h1 _ => run_none h0 i h1)).1
            rw [show t + (17 - t) = 17 from by omega] at this
            rw [this]
          have hfin := HRs.out
          rw [e17] at hfin
          have HO2 := HO
          rw [← hfin] at HO2
          clear e17 hfin HO h0
          go_wp2
          go_roundw
          case rel => exact ⟨y + 1, by omega, by go_num, ⟨_, _, _, rfl⟩, ⟨_, HO2⟩, HB⟩
          case measure => simp [intOf]; omega
        · have kt : (((hiW K t : Nat) : Int) != 0) = true := by rw [bne_iff_ne]; omega
          have hle := hiW_le K t
          obtain ⟨s, hs⟩ : ∃ s, Lib.ctz 32 (hiW K t) = s := ⟨_, rfl⟩
          obtain ⟨l, hl⟩ : ∃ l, Lib.ctz 32 (4294967295 - hiW K t >>> s) = l := ⟨_, rfl⟩
          have R := run_step hgy h0 hs hl
          have T1 : Hid (∀ W, TabW W → Calls Tryd.prog 70 #[.int .u32 ((hiW K t : Nat) : Int)] W (fun e w' => e = .returned (.int .i64 (s : Int)) ∧ W = w')) := fun W hW => by
            have := tz32 (hiW K t) W (by omega) hW
            rwa [hs] at this
          have T2 : Hid (∀ W, TabW W → Calls Tryd.prog 70 #[.int .u32 ((4294967295 - hiW K t >>> s : Nat) : Int)] W (fun e w' => e = .returned (.int .i64 (l : Int)) ∧ W = w')) := fun W hW => by
            have := tz32 (4294967295 - hiW K t >>> s) W (Nat.lt_of_le_of_lt (Nat.sub_le _ _) (by omega)) hW
            rwa [hl] at this
          have TW := Lib.hid (HT.out _ HB.out)
          have hsl := R.sl
          have hl0 := R.l0
          have HR := Lib.hid R
          obtain ⟨H, hH⟩ : ∃ H, hiW K t = H := ⟨_, rfl⟩
          rw [hH] at T1 T2 hle kt ⊢
          have HH := Lib.hid hH
          have kx := not_bits H s (by omega)
          obtain ⟨B, hB⟩ : ∃ B, 4294967295 - H >>> s = B := ⟨_, rfl⟩
          rw [hB] at T2 kx
          clear h0 R hs hl hH hB
          go_wp2_with fail
          refine (T1.out _ TW.out).mono ?_
          rintro e w2 ⟨rfl, rfl⟩
          go_wp2_with fail
          refine (T2.out _ TW.out).mono ?_
          rintro e w2 ⟨rfl, rfl⟩
          have hrl := rl_next hbk HR.out.ts HR.out.gap HR.out.l0 HR.out.run HR.out.off
          have hrow : P ++ rowR K.testBit y (s + l + 1) = (P ++ rowR K.testBit y t) ++ [[(y : Int), (s : Int), (l : Int)]] := by
            unfold rowR
            rw [hrl.1, List.map_append, List.append_assoc]
            rfl
          have hlen : (P ++ rowR K.testBit y t).length ≤ 17 * 17 := by
            have := rowR_len K.testBit y t
            rw [List.length_append]
            omega
          have hbk2 := hrl.2
          have HRow := Lib.hid hrow
          obtain ⟨X, hX⟩ : ∃ X, P ++ rowR K.testBit y t = X := ⟨_, rfl⟩
          rw [hX] at HO HRow hlen
          have hsB := HB.out.size
          have hr1 := OwnR.row HO.out
          have hr2 := World.ownsRow.alloc (World.ownsRow.alloc hr1 (.cells #[.int .i64 y, .int .i64 s, .int .i64 l] 2)) (.cells #[.slice (some ⟨wr.heap.size, 0, none⟩) 3 3] 32)
          have HR2 := Lib.hid hr2
          have hnew := cell_one_new (wr.alloc (.cells #[.int .i64 y, .int .i64 s, .int .i64 l] 2)) (.slice (some ⟨wr.heap.size, 0, none⟩) 3 3) 32
          rw [World.size_alloc] at hnew
          have HNew := Lib.hid hnew
          clear kx hrl hrow hX hr1 hr2 hnew hbk
          go_wp2_with (at_builtin; refine wpList_append_own _ rfl _ _ 43 rfl W1.heap.size 32 i0 (.slice none 0 0) 1 24 Tryd.underlying43 hi hz0 hz1 hz2 rfl (by decide) _ _ _ rfl HR2.out ⟨wr.heap.size + 1, 0, none⟩ 1 1 [.slice (some ⟨wr.heap.size, 0, none⟩) 3 3] rfl rfl HNew.out (by intro u hu; simp at hu; subst hu; rfl) (by unfold maxLen; omega) (by omega) (by simp; omega) ?_)
          intro v' w5 hown' hgr _
          have hb5 : Below W1.heap.size W1 w5 := ((HB.out.alloc hsB _).alloc (by simp; omega) _).grown hgr (by simp; omega) (fun k hk => (HR2.out.lt k hk).1)
          have HB5 := Lib.hid hb5
          obtain ⟨us5, ho5⟩ := OwnL.snoc HO.out hsB #[.int .i64 y, .int .i64 s, .int .i64 l] [(y : Int), (s : Int), (l : Int)] rfl (by unfold maxLen; simp) _ hown' hgr
          have HO5 := Lib.hid ho5
          obtain ⟨g', c', rfl⟩ := Joins.ownsRow_form hown' (by omega)
          clear hown' hgr hb5 ho5 HR2 HNew HO HB TW
          go_wp2_with fail
          refine (maskOf_any l _ (by omega)).mono ?_
          rintro e w6 ⟨rfl, rfl⟩
          obtain ⟨mk, hmk⟩ : ∃ m, 2 ^ l - 1 = m := ⟨_, rfl⟩
          have hkan := less_bits H l s (by omega) hsl
          have hrst := HR.out.rest
          rw [HH.out] at hrst
          rw [hrst] at hkan
          have hlt2 : hiW K (s + l + 1) < H := by
            apply Nat.lt_of_le_of_ne
            · rw [← hrst]
              have hM : (2 ^ l - 1) <<< s < 4294967296 := by
                have h1 : 2 ^ l * 2 ^ s ≤ 2 ^ 16 := by rw [← Nat.pow_add]; exact Nat.pow_le_pow_right (by omega) (by omega)
                have h2 : (2 ^ l - 1) * 2 ^ s ≤ 2 ^ l * 2 ^ s := Nat.mul_le_mul (Nat.sub_le _ _) (Nat.le_refl _)
                rw [Nat.shiftLeft_eq]
                omega
              rw [← less_and H _ (by omega) hM]
              exact Nat.and_le_left
            · intro e
              have h1 : (hiW K (s + l + 1)).testBit s = H.testBit s := by rw [e]
              rw [hiW_bit, ← HH.out, hiW_bit, HR.out.run s (Nat.le_refl _) (by omega)] at h1
              have h2 : ¬ s + l + 1 ≤ s := by omega
              have h3 := HR.out.ts
              simp [h2, h3] at h1
          rw [hmk] at hkan ⊢
          have HKan := Lib.hid hkan
          have HLt2 := Lib.hid hlt2
          clear hmk hkan hrst hlt2
          rw [← HRow.out] at HO5
          go_wp2
          go_roundw
          case rel => exact ⟨s + l + 1, by omega, hbk2, by rw [HKan.out], ⟨_, _, _, rfl⟩, ⟨_, HO5⟩, HB5⟩
          case measure => rw [HKan.out]; simpa [intOf] using HLt2.out
    · obtain rfl : y = b := by omega
      have kx : ¬ (y : Int) < (y : Int) := by omega
      have hs1 := HS1.out
      have HO2 := Lib.hid (OwnR.mono HO.out (lo' := w.heap.size) (by omega) (Nat.le_refl _))
      have HB2 := Lib.hid (HB0.out.trans (HB.out.mono (by omega)))
      clear HO HB hs1
      go_wp2
      go_ret
      exact ⟨_, _, rfl, HO2.out, HB2.out⟩
end Go.Proofs.YtaopdhncapoefaaDoor
