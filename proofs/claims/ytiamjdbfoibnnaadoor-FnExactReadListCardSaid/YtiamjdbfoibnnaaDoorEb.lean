/- Contracts of single functions, and plain lemmas, on which the exact laws of this seat rest; each holds under the conditions that it states. -/
import Derived.Test.YtiamjdbfoibnnaaDoorEa
namespace Go.Proofs.YtiamjdbfoibnnaaDoor
set_option linter.unusedVariables false
set_option linter.unusedSimpArgs false
open Go.RowKit

theorem kept_cell {w w1 : World} {b o : Nat} {v : Value} (hb : Below w.heap.size w w1) (h : w.cell? ⟨b, o, none⟩ = some v) : w1.cell? ⟨b, o, none⟩ = some v := (hb.cell (p := ⟨b, o, none⟩) (blk_lt h)).trans h
theorem text_ne {s t : ByteArray} (h : s ≠ t) : (s.toList == t.toList) = false := by
  rw [beq_eq_false_iff_ne, ByteArray.toList_eq, ByteArray.toList_eq]
  exact fun e => h (by
    cases s; cases t
    congr 1
    exact Array.toList_inj.1 e)
/-- between two numbers -/
def inD (n a b : Int) : Bool := decide (a ≤ n) && decide (n ≤ b)
set_option maxHeartbeats 400000 in
theorem l00In_d (n a b : Int) (w : World) : Calls Tryd.prog 32 #[.int .i64 n, .int .i64 a, .int .i64 b] w fun e w' => e = .returned (.bool (inD n a b)) ∧ w = w' := by
  by_cases h1 : a ≤ n
  · have e2 : Hid (inD n a b = decide (n ≤ b)) := by
      show inD n a b = _
      simp [inD, h1]
    go_enter Tryd.func32, Tryd.ntmps32
    go_wp2
    go_ret
    exact ⟨ret_bool e2.out.symm, rfl⟩
  · have e2 : Hid (inD n a b = false) := by
      show inD n a b = _
      simp [inD, h1]
    go_enter Tryd.func32, Tryd.ntmps32
    go_wp2
    go_ret
    exact ⟨ret_bool (a := false) e2.out.symm, rfl⟩
theorem isValue_d (n : Int) (w : World) : Calls Tryd.prog 23 #[.int .i64 n] w fun e w' => e = .returned (.bool (inD n (-1000000000) 1000000000)) ∧ w = w' := by
  by_cases h1 : -1000000000 ≤ n
  · have e2 : Hid (inD n (-1000000000) 1000000000 = decide (n ≤ 1000000000)) := by
      show inD n _ _ = _
      simp [inD, h1]
    go_enter Tryd.func23, Tryd.ntmps23
    go_wp2
    go_ret
    exact ⟨ret_bool e2.out.symm, rfl⟩
  · have e2 : Hid (inD n (-1000000000) 1000000000 = false) := by
      show inD n _ _ = _
      simp [inD]; omega
    go_enter Tryd.func23, Tryd.ntmps23
    go_wp2
    go_ret
    exact ⟨ret_bool (a := false) e2.out.symm, rfl⟩
theorem inD_true {n : Int} (h : inD n (-1000000000) 1000000000 = true) : -1000000000 ≤ n ∧ n ≤ 1000000000 := by
  unfold inD at h
  simpa only [Bool.and_eq_true, decide_eq_true_eq] using h
theorem inD_false {n : Int} (h : inD n (-1000000000) 1000000000 = false) : ¬ (-1000000000 ≤ n ∧ n ≤ 1000000000) := fun hh => by
  unfold inD at h
  rw [decide_eq_true hh.1, decide_eq_true hh.2] at h
  cases h

/-- what is found at the end: z is what the text spells -/
theorem read_ok {l : List UInt8} {z : Int} (hr : inD z (-1000000000) 1000000000 = true) (he : Lib.itoa z = l) : ReadS l z true := Or.inl ⟨rfl, (inD_true hr).1, (inD_true hr).2, he⟩
theorem read_no {l : List UInt8} (h : ∀ m : Int, -1000000000 ≤ m → m ≤ 1000000000 → Lib.itoa m ≠ l) : ReadS l 0 false := Or.inr ⟨rfl, rfl, h⟩
/-- nothing but z can have the text -/
theorem read_only {l : List UInt8} {z : Int} (hz : ∀ m : Int, -1000000000 ≤ m → m ≤ 1000000000 → Lib.itoa m = l → m = z) (h : inD z (-1000000000) 1000000000 = false ∨ Lib.itoa z ≠ l) : ReadS l 0 false :=
  read_no fun m h1 h2 e => by
    obtain rfl := hz m h1 h2 e
    rcases h with h | h
    · exact inD_false h ⟨h1, h2⟩
    · exact h e

theorem valD_lt (l : List UInt8) : valD 0 l < 10 ^ l.length := by
  have : ∀ (l : List UInt8) (n : Nat), valD n l < 10 ^ l.length * (n + 1) := by
    intro l
    induction l with
    | nil => intro n; simp [valD]
    | cons c l ih =>
      intro n
      refine Nat.lt_of_lt_of_le (ih _) ?_
      rw [List.length_cons, Nat.pow_succ, Nat.mul_assoc]
      refine Nat.mul_le_mul_left _ ?_
      split <;> omega
  simpa using this l 0

set_option maxHeartbeats 2000000 in
set_option maxRecDepth 100000 in
theorem l01Value_any (s : ByteArray) (w : World) (hs : s.size ≤ 1048576) : Calls Tryd.prog 27 #[.string s] w (SaysRead s.data.toList w) := by
  have hlen : s.data.toList.length = s.size := by rw [Array.length_toList]; rfl
  by_cases hl : s.size < 1 ∨ 11 < s.size
  · have HNo := Lib.hid (read_no (l := s.data.toList) fun m h1 h2 e => by
      have := itoa_len h1 h2
      rw [e, hlen] at this
      omega)
    clear hlen
    go_enter Tryd.func27, Tryd.ntmps27
    go_wp2
    all_goals (go_ret2; exact ⟨0, false, rfl, HNo.out, Below.refl _ _⟩)
  · have hs1 : 1 ≤ s.size := by omega
    have hs11 : s.size ≤ 11 := by omega
    have hvs : valS s.data.toList = if (s[0]'hs1).toNat = 45 then -((valD 0 s.data.toList : Nat) : Int) else ((valD 0 s.data.toList : Nat) : Int) := by
      unfold valS
      have e : s.data.toList.head? = some (s[0]'hs1) := by
        rw [List.head?_eq_getElem?, List.getElem?_eq_getElem (by omega)]; rfl
      rw [e]
      by_cases h : (s[0]'hs1) = 45
      · rw [if_pos (by rw [h]), if_pos (by rw [h]; rfl)]
      · rw [if_neg (fun e => h (Option.some.inj e)), if_neg (fun e => h (UInt8.toNat_inj.1 (by rw [e]; rfl)))]
    have HVS := Lib.hid hvs
    have HOnly : Hid (∀ z, z = valS s.data.toList → ∀ m : Int, -1000000000 ≤ m → m ≤ 1000000000 → Lib.itoa m = s.data.toList → m = z) := fun z hz m h1 h2 e => by
      rw [hz, ← e, valS_itoa]
    have HLen := Lib.hid hlen
    clear hl hvs hlen
    go_enter Tryd.func27, Tryd.ntmps27
    go_wp2
    go_loop [4, 5] (fun nv iv => ∃ k m : Nat, k ≤ s.size ∧ iv = .int .i64 k ∧ nv = .int .i64 m ∧ Hid (valD 0 (s.data.toList.take k) = m)) (fun _ iv => s.size - (intOf iv).toNat)
    case atStart => exact ⟨0, 0, Nat.zero_le _, rfl, rfl, rfl⟩
    case round =>
      obtain ⟨k, m, hk, rfl, rfl, HV⟩ := hrel
      by_cases hlt : k < s.size
      · have hts : s.data.toList.take (k + 1) = s.data.toList.take k ++ [s[k]] := by
          rw [List.take_succ_eq_append_getElem (by rw [HLen.out]; exact hlt)]; rfl
        have hv2 : valD 0 (s.data.toList.take (k + 1)) = if 48 ≤ (s[k]).toNat ∧ (s[k]).toNat ≤ 57 then 10 * m + ((s[k]).toNat - 48) else m := by
          rw [hts, valD_append, HV.out]; rfl
        have hm : m ≤ 10000000000 := by
          have h1 := valD_lt (s.data.toList.take k)
          rw [HV.out, List.length_take, HLen.out] at h1
          have h2 : 10 ^ (min k s.size) ≤ 10 ^ 10 := Nat.pow_le_pow_right (by omega) (by omega)
          have h3 : (10 : Nat) ^ 10 = 10000000000 := by decide
          omega
        have hc : (s[k]).toNat < 256 := (s[k]).toNat_lt
        have HV2 := Lib.hid hv2
        have k0 : (0 : Int) ≤ (k : Int) := by omega
        have k1 : (k : Int) < (s.size : Int) := by omega
        have kw1 : wrap64 (10 * (m : Int)) = 10 * (m : Int) := IntWalk.wrap64_in _ (by omega)
        have kw2 : wrap64 (10 * (m : Int) + (((s[k]).toNat : Int) - 48)) = 10 * (m : Int) + (((s[k]).toNat : Int) - 48) := IntWalk.wrap64_in _ (by omega)
        clear hts hv2
        by_cases hd1 : 48 ≤ (s[k]).toNat
        · by_cases hd2 : (s[k]).toNat ≤ 57
          · go_wp2
            go_round
            case rel => exact ⟨k + 1, 10 * m + ((s[k]).toNat - 48), by omega, by go_num, by go_num, Lib.hid (by rw [HV2.out, if_pos ⟨hd1, hd2⟩])⟩
            case measure => simp [intOf]; omega
          · go_wp2
            go_round
            case rel => exact ⟨k + 1, m, by omega, by go_num, rfl, Lib.hid (by rw [HV2.out, if_neg (by omega)])⟩
            case measure => simp [intOf]; omega
        · go_wp2
          go_round
          case rel => exact ⟨k + 1, m, by omega, by go_num, rfl, Lib.hid (by rw [HV2.out, if_neg (by omega)])⟩
          case measure => simp [intOf]; omega
      · obtain rfl : k = s.size := by omega
        have hv : valD 0 s.data.toList = m := by
          have := HV.out
          rwa [List.take_of_length_le (by rw [HLen.out]; exact Nat.le_refl _)] at this
        have hm : m ≤ 100000000000 := by
          have h1 := valD_lt s.data.toList
          rw [hv, HLen.out] at h1
          have h2 : 10 ^ s.size ≤ 10 ^ 11 := Nat.pow_le_pow_right (by omega) hs11
          have h3 : (10 : Nat) ^ 11 = 100000000000 := by decide
          omega
        have hvs := HVS.out
        rw [hv] at hvs
        have kz : (0 : Int) < (s.size : Int) := by omega
        obtain ⟨c, hc⟩ : ∃ c, (s[0]'hs1).toNat = c := ⟨_, rfl⟩
        rw [hc] at hvs
        have HC := Lib.hid hc
        have tail : ∀ z : Int, z = valS s.data.toList → -100000000000 ≤ z → z ≤ 100000000000 → Hid (ReadS s.data.toList (if inD z (-1000000000) 1000000000 && decide (Lib.itoa z = s.data.toList) then z else 0) (inD z (-1000000000) 1000000000 && decide (Lib.itoa z = s.data.toList))) := fun z hz _ _ => by
          show ReadS _ _ _
          cases h1 : inD z (-1000000000) 1000000000 with
          | false => exact read_only (HOnly.out z hz) (Or.inl h1)
          | true =>
            by_cases h2 : Lib.itoa z = s.data.toList
            · rw [decide_eq_true h2]; exact read_ok h1 h2
            · rw [decide_eq_false h2]; exact read_only (HOnly.out z hz) (Or.inr h2)
        have CD : ∀ z : Int, -100000000000 ≤ z → z ≤ 100000000000 → ∀ W, Calls Tryd.prog 19 #[.int .i64 z] W (SaysDec z W) := fun z h1 h2 W => l01Dec_any z W (by omega) (by omega)
        unfold SaysDec at CD
        by_cases hneg : c = 45
        · have kc : ((c : Int) == 45) = true := by rw [hneg]; rfl
          rw [if_pos hneg] at hvs
          have T := tail (-(m : Int)) hvs.symm (by omega) (by omega)
          have D := Lib.hid (CD (-(m : Int)) (by omega) (by omega))
          obtain ⟨S, hS⟩ : ∃ S : ByteArray, (⟨(Lib.itoa (-(m : Int))).toArray⟩ : ByteArray) = S := ⟨_, rfl⟩
          have hdec : decide (Lib.itoa (-(m : Int)) = s.data.toList) = decide (S = s) := by
            rw [decide_eq_decide, ← hS]
            constructor
            · intro e; cases s; simp_all
            · intro e; rw [← e]
          rw [hS] at D
          rw [hdec] at T
          clear hvs tail CD hdec hS hv hneg hs11 HOnly HVS
          have hcc := HC.out
          go_wp2_with fail
          refine (l00In_d _ _ _ _).mono ?_
          rintro e w' ⟨rfl, rfl⟩
          cases hin : inD (-(m : Int)) (-1000000000) 1000000000 with
          | false =>
            rw [hin, Bool.false_and] at T
            clear hin
            go_wp2_with fail
            go_ret2
            exact ⟨0, false, rfl, T.out, Below.refl _ _⟩
          | true =>
            rw [hin, Bool.true_and] at T
            clear hin
            go_wp2_with fail
            refine (D.out _).mono ?_
            rintro e w2 ⟨rfl, hb⟩
            have HB := Lib.hid hb
            clear hb
            by_cases he : S = s
            · subst he
              rw [decide_eq_true rfl] at T
              go_wp2_with fail
              go_ret2
              exact ⟨_, true, rfl, T.out, HB.out⟩
            · have he2 := text_ne he
              rw [decide_eq_false he] at T
              clear he
              go_wp2_with fail
              go_ret2
              exact ⟨0, false, rfl, T.out, HB.out⟩
        · have kc : ((c : Int) == 45) = false := by rw [beq_eq_false_iff_ne]; omega
          rw [if_neg hneg] at hvs
          have T := tail m hvs.symm (by omega) (by omega)
          have D := Lib.hid (CD m (by omega) (by omega))
          obtain ⟨S, hS⟩ : ∃ S : ByteArray, (⟨(Lib.itoa (m : Int)).toArray⟩ : ByteArray) = S := ⟨_, rfl⟩
          have hdec : decide (Lib.itoa (m : Int) = s.data.toList) = decide (S = s) := by
            rw [decide_eq_decide, ← hS]
            constructor
            · intro e; cases s; simp_all
            · intro e; rw [← e]
          rw [hS] at D
          rw [hdec] at T
          clear hvs tail CD hdec hS hv hneg hs11 HOnly HVS
          have hcc := HC.out
          go_wp2_with fail
          refine (l00In_d _ _ _ _).mono ?_
          rintro e w' ⟨rfl, rfl⟩
          cases hin : inD (m : Int) (-1000000000) 1000000000 with
          | false =>
            rw [hin, Bool.false_and] at T
            clear hin
            go_wp2_with fail
            go_ret2
            exact ⟨0, false, rfl, T.out, Below.refl _ _⟩
          | true =>
            rw [hin, Bool.true_and] at T
            clear hin
            go_wp2_with fail
            refine (D.out _).mono ?_
            rintro e w2 ⟨rfl, hb⟩
            have HB := Lib.hid hb
            clear hb
            by_cases he : S = s
            · subst he
              rw [decide_eq_true rfl] at T
              go_wp2_with fail
              go_ret2
              exact ⟨_, true, rfl, T.out, HB.out⟩
            · have he2 := text_ne he
              rw [decide_eq_false he] at T
              clear he
              go_wp2_with fail
              go_ret2
              exact ⟨0, false, rfl, T.out, HB.out⟩
end Go.Proofs.YtiamjdbfoibnnaaDoor
