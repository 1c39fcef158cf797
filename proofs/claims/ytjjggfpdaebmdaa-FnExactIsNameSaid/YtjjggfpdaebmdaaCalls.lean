/- IsName and CheckOf of the program answer as their models do, for every text and every number: the calls that the two exact laws make, function by function. No condition. -/
import Derived.Test.YtjjggfpdaebmdaaProg
import Derived.WalkKit
import Derived.WalkSpells
import Derived.Below
import Derived.Laws.RangeAny
import Derived.Lib.Hide
namespace Go.Proofs.Ytjjggfpdaebmdaa
open Go.RowKit
set_option linter.unusedVariables false

theorem ret_bool {a b : Bool} (h : a = b) : Ending.returned (.bool a) = .returned (.bool b) := by rw [h]

/-- a letter -/
def letterB (c : UInt8) : Bool := decide (97 ≤ c.toNat) && decide (c.toNat ≤ 122)
def nameB (s : ByteArray) : Bool := s.data.toList.all letterB && decide (1 ≤ s.size) && decide (s.size ≤ 8)

theorem iter_below (w : World) (s : ByteArray) (pos : Nat) : Below w.heap.size w (w.iter s pos) := by
  exact (Below.refl _ _).alloc (Nat.le_refl _) _

theorem name_no (s : ByteArray) (k : Nat) (h : k < s.size) (hn : ¬ (97 ≤ (s[k]'h).toNat ∧ (s[k]'h).toNat ≤ 122)) : nameB s = false := by
  unfold nameB
  have : s.data.toList.all letterB = false := by
    rw [List.all_eq_false]
    refine ⟨s[k], ?_, ?_⟩
    · exact Array.mem_toList_iff.2 (Array.getElem_mem _)
    · simp [letterB]; omega
  simp [this]

theorem name_yes (s : ByteArray) (h : ∀ (k : Nat) (hk : k < s.size), 97 ≤ (s[k]'hk).toNat ∧ (s[k]'hk).toNat ≤ 122) : nameB s = (decide (1 ≤ s.size) && decide (s.size ≤ 8)) := by
  unfold nameB
  have : s.data.toList.all letterB = true := by
    rw [List.all_eq_true]
    intro c hc
    obtain ⟨k, hk, rfl⟩ := List.getElem_of_mem hc
    have := h k (by simpa using hk)
    simp [letterB]
    exact this
  simp [this]

set_option maxHeartbeats 400000 in
theorem spec_isName (s : ByteArray) (w : World) (hs : s.size ≤ maxLen) :
    Calls Try.prog 5 #[.string s] w fun e w' => e = .returned (.bool (nameB s)) ∧ w = w' := by
  unfold maxLen at hs
  go_enter Try.func5, Try.ntmps5
  go_wp2
  go_loop [3] (fun i => ∃ k : Nat, k ≤ s.size ∧ i = .int .i64 k ∧ Hid (∀ (j : Nat) (hj : j < s.size), j < k → 97 ≤ (s[j]'hj).toNat ∧ (s[j]'hj).toNat ≤ 122)) (fun i => s.size - (intOf i).toNat)
  case atStart => exact ⟨0, Nat.zero_le _, rfl, fun j _ h => by omega⟩
  case round =>
    obtain ⟨k, hk, rfl, H⟩ := hrel
    by_cases hlt : k < s.size
    · by_cases hin : 97 ≤ (s[k]'hlt).toNat ∧ (s[k]'hlt).toNat ≤ 122
      · obtain ⟨h1, h2⟩ := hin
        go_wp2
        go_round
        case rel => exact ⟨k + 1, by omega, by go_num, fun j hj hjk => by
          by_cases e : j = k
          · subst e; exact ⟨h1, h2⟩
          · exact H.out j hj (by omega)⟩
        case measure => simp [intOf]; omega
      · have hno := Lib.hid (name_no s k hlt hin)
        by_cases hl : (s[k]'hlt).toNat < 97
        · go_wp2
          go_ret
          exact ⟨ret_bool (a := false) hno.out.symm, rfl⟩
        · have hl2 : 122 < (s[k]'hlt).toNat := by omega
          go_wp2
          go_ret
          exact ⟨ret_bool (a := false) hno.out.symm, rfl⟩
    · have e := name_yes s (fun j hj => H.out j hj (by omega))
      by_cases hz : 1 ≤ s.size
      · have e2 : Hid (nameB s = decide ((s.size : Int) ≤ 8)) := by
          show nameB s = _
          rw [e]; simp [hz]; omega
        clear e
        go_wp2
        go_ret
        exact ⟨ret_bool e2.out.symm, rfl⟩
      · have e2 : Hid (nameB s = false) := by
          show nameB s = _
          rw [e]; simp; omega
        clear e
        go_wp2
        go_ret
        exact ⟨ret_bool (a := false) e2.out.symm, rfl⟩

set_option maxHeartbeats 400000 in
theorem impl_isName (s : ByteArray) (w : World) (hs : s.size ≤ maxLen) :
    Calls Try.prog 6 #[.string s] w fun e w' => e = .returned (.bool (nameB s)) ∧ Below w.heap.size w w' := by
  unfold maxLen at hs
  go_enter Try.func6, Try.ntmps6
  go_wp2
  go_loopw [4] (fun r w' => ∃ pos : Nat, w' = w.iter s pos ∧ Hid (∀ (j : Nat) (hj : j < s.size), j < pos → 97 ≤ (s[j]'hj).toNat ∧ (s[j]'hj).toNat ≤ 122)) (fun _ w' => s.size - w'.iterPos w.heap.size)
  case atStart => exact ⟨0, rfl, fun j _ h => by omega⟩
  case round =>
    obtain ⟨pos, rfl, H⟩ := hrel
    by_cases hp : pos < s.size
    · have hnx : ∀ ty, (Instr.next (.pointer (some ⟨w.heap.size, 0, none⟩)) true ty).run Try.prog (w.iter s pos) = _ := fun ty => run_next_any w s pos ty hp
      by_cases hin : 97 ≤ (s[pos]'hp).toNat ∧ (s[pos]'hp).toNat ≤ 122
      · obtain ⟨h1, h2⟩ := hin
        rw [decode_ascii s pos hp (by omega)] at hnx
        go_wp2
        go_roundw
        case rel => exact ⟨pos + 1, rfl, fun j hj hjk => by
          by_cases e : j = pos
          · subst e; exact ⟨h1, h2⟩
          · exact H.out j hj (by omega)⟩
        case measure => simp; omega
      · have hno := Lib.hid (name_no s pos hp hin)
        by_cases hl : (s[pos]'hp).toNat < 97
        · rw [decode_ascii s pos hp (by omega)] at hnx
          go_wp2
          go_ret
          exact ⟨ret_bool (a := false) hno.out.symm, iter_below _ _ _⟩
        · by_cases ha : (s[pos]'hp).toNat < 128
          · have hl2 : 122 < (s[pos]'hp).toNat := by omega
            rw [decode_ascii s pos hp ha] at hnx
            go_wp2
            go_ret
            exact ⟨ret_bool (a := false) hno.out.symm, iter_below _ _ _⟩
          · have hh := (decode_high s pos hp (by omega)).1
            obtain ⟨r, hr⟩ : ∃ r, (Utf8.decode s pos).1 = r := ⟨_, rfl⟩
            rw [hr] at hnx hh
            clear hr
            go_wp2
            go_ret
            exact ⟨ret_bool (a := false) hno.out.symm, iter_below _ _ _⟩
    · have hnx : ∀ ty, (Instr.next (.pointer (some ⟨w.heap.size, 0, none⟩)) true ty).run Try.prog (w.iter s pos) = _ := fun ty => run_next_end w s pos ty hp
      have e := name_yes s (fun j hj => H.out j hj (by omega))
      by_cases hz : 1 ≤ s.size
      · have e2 : Hid (nameB s = decide ((s.size : Int) ≤ 8)) := by
          show nameB s = _
          rw [e]; simp [hz]; omega
        clear e
        go_wp2
        go_ret
        exact ⟨ret_bool e2.out.symm, iter_below _ _ _⟩
      · have e2 : Hid (nameB s = false) := by
          show nameB s = _
          rw [e]; simp; omega
        clear e
        go_wp2
        go_ret
        exact ⟨ret_bool (a := false) e2.out.symm, iter_below _ _ _⟩

/-! ### check numbers -/
def chk1 (n : Int) (c : UInt8) : Int := (421 * n + (c.toNat : Int) + 19) % 65129
def chkF (n : Int) (l : List UInt8) : Int := l.foldl chk1 n
theorem chk1_bd (n : Int) (c : UInt8) (h0 : 0 ≤ n) (h1 : n < 65129) : 0 ≤ chk1 n c ∧ chk1 n c < 65129 := by
  unfold chk1; omega
theorem chkF_bd (l : List UInt8) (n : Int) (h0 : 0 ≤ n) (h1 : n < 65129) : 0 ≤ chkF n l ∧ chkF n l < 65129 := by
  induction l generalizing n with
  | nil => exact ⟨h0, h1⟩
  | cons c l ih => exact ih _ (chk1_bd n c h0 h1).1 (chk1_bd n c h0 h1).2
theorem chkF_snoc (s : ByteArray) (n : Int) (k : Nat) (h : k < s.size) : chkF n (s.data.toList.take (k + 1)) = chk1 (chkF n (s.data.toList.take k)) (s[k]'h) := by
  rw [List.take_succ_eq_append_getElem (by simpa using h)]
  unfold chkF
  rw [List.foldl_append]
  rfl

theorem ret_int {k : IntKind} {a b : Int} (h : a = b) : Ending.returned (.int k a) = .returned (.int k b) := by rw [h]

set_option maxHeartbeats 400000 in
theorem spec_l01Check (n : Int) (s : ByteArray) (w : World) (hs : s.size ≤ maxLen) (h0 : 0 ≤ n) (h1 : n < 65129) :
    Calls Try.prog 10 #[.int .i64 n, .string s] w fun e w' => e = .returned (.int .i64 (chkF n s.data.toList)) ∧ w = w' := by
  unfold maxLen at hs
  go_enter Try.func10, Try.ntmps10
  go_wp2
  go_loop [0, 5] (fun m i => ∃ k : Nat, k ≤ s.size ∧ i = .int .i64 k ∧ m = .int .i64 (chkF n (s.data.toList.take k))) (fun _ i => s.size - (intOf i).toNat)
  case atStart => exact ⟨0, Nat.zero_le _, rfl, rfl⟩
  case round =>
    obtain ⟨k, hk, rfl, rfl⟩ := hrel
    obtain ⟨m, hm⟩ : ∃ m, chkF n (s.data.toList.take k) = m := ⟨_, rfl⟩
    have hb := chkF_bd (s.data.toList.take k) n h0 h1
    rw [hm] at hb ⊢
    obtain ⟨hb0, hb1⟩ := hb
    by_cases hlt : k < s.size
    · have hsn := chkF_snoc s n k hlt
      rw [hm] at hsn
      have HS := Lib.hid hsn
      have HM := Lib.hid hm
      clear hsn hm
      have hc : (s[k]'hlt).toNat < 256 := (s[k]'hlt).toNat_lt
      go_wp2
      go_round
      case rel => exact ⟨k + 1, by omega, by go_num, by rw [HS.out]; rfl⟩
      case measure => simp [intOf]; omega
    · have e : Hid (m = chkF n s.data.toList) := by
        show m = _
        rw [← hm, List.take_of_length_le (by simp; omega)]
      clear hm
      go_wp2
      go_ret
      exact ⟨ret_int e.out, rfl⟩


/-- between two numbers -/
def inB (n a b : Int) : Bool := decide (a ≤ n) && decide (n ≤ b)

set_option maxHeartbeats 400000 in
theorem l00In_any (n a b : Int) (w : World) : Calls Try.prog 9 #[.int .i64 n, .int .i64 a, .int .i64 b] w fun e w' => e = .returned (.bool (inB n a b)) ∧ w = w' := by
  by_cases h1 : a ≤ n
  · have e2 : Hid (inB n a b = decide (n ≤ b)) := by
      show inB n a b = _
      simp [inB, h1]
    go_enter Try.func9, Try.ntmps9
    go_wp2
    go_ret
    exact ⟨ret_bool e2.out.symm, rfl⟩
  · have e2 : Hid (inB n a b = false) := by
      show inB n a b = _
      simp [inB, h1]
    go_enter Try.func9, Try.ntmps9
    go_wp2
    go_ret
    exact ⟨ret_bool (a := false) e2.out.symm, rfl⟩

theorem spec_CheckOf (n : Int) (s : ByteArray) (w : World) (hs : s.size ≤ maxLen) (h0 : 0 ≤ n) (h1 : n < 65129) :
    Calls Try.prog 7 #[.int .i64 n, .string s] w fun e w' => e = .returned (.tuple #[.int .i64 (chkF n s.data.toList), .bool true]) ∧ w = w' := by
  have hd : inB n 0 65128 = true := by simp [inB]; omega
  have HD := Lib.hid hd
  clear hd
  go_enter Try.func7, Try.ntmps7
  go_wp2_with fail
  refine (l00In_any _ _ _ _).mono ?_
  rintro e w' ⟨rfl, rfl⟩
  rw [HD.out]
  go_wp2_with fail
  refine (spec_l01Check n s w hs h0 h1).mono ?_
  rintro e w' ⟨rfl, rfl⟩
  go_wp2_with fail
  go_ret2
  exact ⟨rfl, rfl⟩

theorem spec_CheckOf_no (n : Int) (s : ByteArray) (w : World) (h : ¬ (0 ≤ n ∧ n < 65129)) :
    Calls Try.prog 7 #[.int .i64 n, .string s] w fun e w' => e = .returned (.tuple #[.int .i64 0, .bool false]) ∧ w = w' := by
  have hd : inB n 0 65128 = false := by simp [inB]; omega
  have HD := Lib.hid hd
  clear hd
  go_enter Try.func7, Try.ntmps7
  go_wp2_with fail
  refine (l00In_any _ _ _ _).mono ?_
  rintro e w' ⟨rfl, rfl⟩
  rw [HD.out]
  go_wp2_with fail
  go_ret2
  exact ⟨rfl, rfl⟩

set_option maxHeartbeats 400000 in
theorem impl_CheckOf (n : Int) (s : ByteArray) (w : World) (hs : s.size ≤ maxLen) (h0 : 0 ≤ n) (h1 : n < 65129) :
    Calls Try.prog 8 #[.int .i64 n, .string s] w fun e w' => e = .returned (.tuple #[.int .i64 (chkF n s.data.toList), .bool true]) ∧ w = w' := by
  unfold maxLen at hs
  have hn0 : decide (n < 0) = false := by simp; omega
  go_enter Try.func8, Try.ntmps8
  go_wp2
  go_loop [6, 17] (fun m i => ∃ k : Nat, k ≤ s.size ∧ i = .int .i64 k ∧ m = .int .i64 (chkF n (s.data.toList.take k))) (fun _ i => s.size - (intOf i).toNat)
  case atStart => exact ⟨0, Nat.zero_le _, rfl, rfl⟩
  case round =>
    obtain ⟨k, hk, rfl, rfl⟩ := hrel
    obtain ⟨m, hm⟩ : ∃ m, chkF n (s.data.toList.take k) = m := ⟨_, rfl⟩
    have hb := chkF_bd (s.data.toList.take k) n h0 h1
    rw [hm] at hb ⊢
    obtain ⟨hb0, hb1⟩ := hb
    by_cases hlt : k < s.size
    · have hsn := chkF_snoc s n k hlt
      rw [hm] at hsn
      have HS := Lib.hid hsn
      have HM := Lib.hid hm
      clear hsn hm
      have hc : (s[k]'hlt).toNat < 256 := (s[k]'hlt).toNat_lt
      go_wp2
      go_round
      case rel => exact ⟨k + 1, by omega, by go_num, by rw [HS.out]; rfl⟩
      case measure => simp [intOf]; omega
    · have e : Hid (m = chkF n s.data.toList) := by
        show m = _
        rw [← hm, List.take_of_length_le (by simp; omega)]
      clear hm
      go_wp2
      go_ret2
      exact ⟨by rw [e.out]; rfl, rfl⟩

theorem impl_CheckOf_no (n : Int) (s : ByteArray) (w : World) (h : ¬ (0 ≤ n ∧ n < 65129)) :
    Calls Try.prog 8 #[.int .i64 n, .string s] w fun e w' => e = .returned (.tuple #[.int .i64 0, .bool false]) ∧ w = w' := by
  by_cases h0 : n < 0
  · go_enter Try.func8, Try.ntmps8
    go_wp2
    go_ret2
    exact ⟨rfl, rfl⟩
  · have h1 : 65129 ≤ n := by omega
    go_enter Try.func8, Try.ntmps8
    go_wp2
    go_ret2
    exact ⟨rfl, rfl⟩

/-! ### the laws -/
theorem law_CheckOf (n : Int) (s : ByteArray) (w : World) (hs : s.size ≤ maxLen) :
    Calls Try.prog 4 #[.int .i64 n, .string s] w fun e w' => e = .returned (.bool true) ∧ Below w.heap.size w w' := by
  have hs2 := hs
  unfold maxLen at hs2
  by_cases hbig : 1048576 < s.size
  · go_enter Try.func4, Try.ntmps4
    go_wp2_with fail
    go_ret
    exact ⟨rfl, Below.refl _ _⟩
  · by_cases h : 0 ≤ n ∧ n < 65129
    · obtain ⟨h0, h1⟩ := h
      obtain ⟨r, hr⟩ : ∃ r, chkF n s.data.toList = r := ⟨_, rfl⟩
      have c1 := spec_CheckOf n s w hs h0 h1
      have c2 := impl_CheckOf n s w hs h0 h1
      rw [hr] at c1 c2
      have C1 := Lib.hid c1
      have C2 := Lib.hid c2
      clear c1 c2 hr
      go_enter Try.func4, Try.ntmps4
      go_wp2_with fail
      refine C1.out.mono ?_
      rintro e w' ⟨rfl, rfl⟩
      go_wp2_with fail
      refine C2.out.mono ?_
      rintro e w' ⟨rfl, rfl⟩
      go_wp2_with fail
      go_ret
      exact ⟨rfl, Below.refl _ _⟩
    · go_enter Try.func4, Try.ntmps4
      go_wp2_with fail
      refine (spec_CheckOf_no n s w h).mono ?_
      rintro e w' ⟨rfl, rfl⟩
      go_wp2_with fail
      refine (impl_CheckOf_no n s w h).mono ?_
      rintro e w' ⟨rfl, rfl⟩
      go_wp2_with fail
      go_ret
      exact ⟨rfl, Below.refl _ _⟩

theorem law_IsName (s : ByteArray) (w : World) (hs : s.size ≤ maxLen) :
    Calls Try.prog 3 #[.string s] w fun e w' => e = .returned (.bool true) ∧ Below w.heap.size w w' := by
  have hs2 := hs
  unfold maxLen at hs2
  by_cases hbig : 1048576 < s.size
  · go_enter Try.func3, Try.ntmps3
    go_wp2_with fail
    go_ret
    exact ⟨rfl, Below.refl _ _⟩
  · obtain ⟨r, hr⟩ : ∃ r, nameB s = r := ⟨_, rfl⟩
    have c1 := spec_isName s w hs
    have c2 := impl_isName s w hs
    rw [hr] at c1 c2
    have C1 := Lib.hid c1
    have C2 := Lib.hid c2
    clear c1 c2 hr
    go_enter Try.func3, Try.ntmps3
    go_wp2_with fail
    refine C1.out.mono ?_
    rintro e w' ⟨rfl, rfl⟩
    go_wp2_with fail
    refine C2.out.mono ?_
    rintro e w' ⟨rfl, hb⟩
    have HB := Lib.hid hb
    clear hb
    go_wp2_with fail
    go_ret
    exact ⟨rfl, HB.out⟩
end Go.Proofs.Ytjjggfpdaebmdaa
