/- Contracts of single functions, and plain lemmas, on which the exact laws of this seat rest; each holds under the conditions that it states. -/
import Derived.Test.YtnmnlbgialolhaaDoorHd
import Derived.Laws.BitsAllLaws
namespace Go.Proofs.YtnmnlbgialolhaaDoor
set_option linter.unusedVariables false
open Go.RowKit

/-- between two numbers -/
def inB (n a b : Int) : Bool := decide (a ≤ n) && decide (n ≤ b)
theorem inB_yes {n a b : Int} (h1 : a ≤ n) (h2 : n ≤ b) : inB n a b = true := by simp [inB, h1, h2]
theorem inB_no {n a b : Int} (h : n < a ∨ b < n) : inB n a b = false := by simp [inB]; omega

set_option maxHeartbeats 400000 in
theorem l00In_any (n a b : Int) (w : World) : Calls Tryd.prog 77 #[.int .i64 n, .int .i64 a, .int .i64 b] w fun e w' => e = .returned (.bool (inB n a b)) ∧ w = w' := by
  by_cases h1 : a ≤ n
  · have e2 : Hid (inB n a b = decide (n ≤ b)) := by
      show inB n a b = _
      simp [inB, h1]
    go_enter Tryd.func77, Tryd.ntmps77
    go_wp2
    go_ret
    exact ⟨ret_bool e2.out.symm, rfl⟩
  · have e2 : Hid (inB n a b = false) := by
      show inB n a b = _
      simp [inB, h1]
    go_enter Tryd.func77, Tryd.ntmps77
    go_wp2
    go_ret
    exact ⟨ret_bool (a := false) e2.out.symm, rfl⟩

theorem l01Side_any (n : Int) (w : World) : Calls Tryd.prog 85 #[.int .i64 n] w fun e w' => e = .returned (.bool (inB n 1 16)) ∧ w = w' := by
  go_enter Tryd.func85, Tryd.ntmps85
  go_wp2_with fail
  refine (l00In_any _ _ _ _).mono ?_
  rintro e w' ⟨rfl, rfl⟩
  go_wp2_with fail
  go_ret
  exact ⟨rfl, rfl⟩

/-- A row of a valid picture. -/
def pixB (c : UInt8) : Bool := c == 35 || c == 46
def rowB (wd : Nat) (s : ByteArray) : Bool := decide (s.size = wd) && s.data.toList.all pixB
def row0 (ss : List ByteArray) : ByteArray := ss.getD 0 ByteArray.empty
def validB (ss : List ByteArray) : Bool := decide (1 ≤ ss.length) && decide (ss.length ≤ 16) && decide (1 ≤ (row0 ss).size) && decide ((row0 ss).size ≤ 16) && ss.all (rowB (row0 ss).size)

theorem pix_all {s : ByteArray} (h : ∀ (j : Nat) (hj : j < s.size), pixB (s[j]'hj) = true) : s.data.toList.all pixB = true := by
  rw [List.all_eq_true]
  intro c hc
  obtain ⟨k, hk, rfl⟩ := List.getElem_of_mem hc
  exact h k (by simpa using hk)
theorem pix_some {s : ByteArray} {k : Nat} (hk : k < s.size) (h : pixB (s[k]'hk) = false) : s.data.toList.all pixB = false := by
  rw [List.all_eq_false]
  exact ⟨s[k], Array.mem_toList_iff.2 (Array.getElem_mem _), by simp [h]⟩
theorem valid_no_len {ss : List ByteArray} (h : ss.length < 1 ∨ 16 < ss.length) : validB ss = false := by
  unfold validB
  rcases h with h | h
  · simp [show ¬ 1 ≤ ss.length from by omega]
  · simp [show ¬ ss.length ≤ 16 from by omega]
theorem valid_no_wd {ss : List ByteArray} (h : (row0 ss).size < 1 ∨ 16 < (row0 ss).size) : validB ss = false := by
  unfold validB
  rcases h with h | h
  · simp [show ¬ 1 ≤ (row0 ss).size from by omega]
  · simp [show ¬ (row0 ss).size ≤ 16 from by omega]
theorem valid_no_row {ss : List ByteArray} {k : Nat} (hk : k < ss.length) (h : rowB (row0 ss).size (ss.getD k ByteArray.empty) = false) : validB ss = false := by
  unfold validB
  have : ss.all (rowB (row0 ss).size) = false := by
    rw [List.all_eq_false]
    refine ⟨ss[k], List.getElem_mem _, ?_⟩
    rw [List.getD_eq_getElem?_getD, List.getElem?_eq_getElem hk] at h
    simpa using h
  simp [this]
theorem valid_yes {ss : List ByteArray} (h1 : 1 ≤ ss.length) (h2 : ss.length ≤ 16) (h3 : 1 ≤ (row0 ss).size) (h4 : (row0 ss).size ≤ 16) (h : ∀ j, j < ss.length → rowB (row0 ss).size (ss.getD j ByteArray.empty) = true) : validB ss = true := by
  unfold validB
  have : ss.all (rowB (row0 ss).size) = true := by
    rw [List.all_eq_true]
    intro s hs
    obtain ⟨k, hk, rfl⟩ := List.getElem_of_mem hs
    have := h k hk
    rwa [List.getD_eq_getElem?_getD, List.getElem?_eq_getElem hk] at this
  simp [h1, h2, h3, h4, this]

set_option maxHeartbeats 2000000 in
set_option maxRecDepth 100000 in
theorem l01Is_any (pb po : Nat) (v : Value) (ss : List ByteArray) (w : World) (hp : w.cell? ⟨pb, po, none⟩ = some v) (hv : Sl w v ss) (hN : ss.length ≤ maxLen) (hz : ∀ s ∈ ss, s.size ≤ maxLen) :
    Calls Tryd.prog 37 #[.pointer (some ⟨pb, po, none⟩)] w (SaysB (validB ss) w) := by
  unfold maxLen at hN hz
  have fv : ∃ ao cap, v = .slice ao ss.length cap := by
    rcases hv with ⟨ao, cap, rfl, rfl⟩ | ⟨b, off, cap, rfl, _⟩
    · exact ⟨_, _, rfl⟩
    · exact ⟨_, _, rfl⟩
  by_cases hl : ss.length < 1 ∨ 16 < ss.length
  · have hno := Lib.hid (valid_no_len hl)
    have hin := Lib.hid (inB_no (n := ss.length) (a := 1) (b := 16) (by omega))
    obtain ⟨ao, cap, rfl⟩ := fv
    clear hv
    go_enter Tryd.func37, Tryd.ntmps37
    go_wp2_with fail
    refine (l01Side_any _ _).mono ?_
    rintro e w' ⟨rfl, rfl⟩
    rw [hin.out]
    go_wp2_with fail
    go_ret
    exact ⟨ret_bool (a := false) hno.out.symm, Below.refl _ _⟩
  · rcases hv with ⟨ao, cap, rfl, rfl⟩ | ⟨b, off, cap, rfl, hpos, hb, hc⟩
    · simp at hl
    · clear fv
      have hin := Lib.hid (inB_yes (n := ss.length) (a := 1) (b := 16) (by omega) (by omega))
      have hc0 := hc 0 hpos
      have hr0 : ss.getD 0 ByteArray.empty = row0 ss := rfl
      rw [Nat.add_zero, hr0] at hc0
      have hs0 : (row0 ss).size ≤ 2 ^ 63 - 1 := by
        refine hz _ ?_
        unfold row0
        rw [List.getD_eq_getElem?_getD, List.getElem?_eq_getElem hpos]
        exact List.getElem_mem _
      clear hr0
      by_cases hw : (row0 ss).size < 1 ∨ 16 < (row0 ss).size
      · have hno := Lib.hid (valid_no_wd hw)
        have hin2 := Lib.hid (inB_no (n := (row0 ss).size) (a := 1) (b := 16) (by omega))
        obtain ⟨s0, hs⟩ : ∃ s, row0 ss = s := ⟨_, rfl⟩
        rw [hs] at hin2 hc0 hs0
        clear hs hc hw
        go_enter Tryd.func37, Tryd.ntmps37
        go_wp2_with fail
        refine (l01Side_any _ _).mono ?_
        rintro e w' ⟨rfl, rfl⟩
        rw [hin.out]
        go_wp2_with fail
        refine (l01Side_any _ _).mono ?_
        rintro e w' ⟨rfl, rfl⟩
        rw [hin2.out]
        go_wp2_with fail
        go_ret
        exact ⟨ret_bool (a := false) hno.out.symm, Below.refl _ _⟩
      · have hin2 := Lib.hid (inB_yes (n := (row0 ss).size) (a := 1) (b := 16) (by omega) (by omega))
        obtain ⟨n, hn⟩ : ∃ n, ss.length = n := ⟨_, rfl⟩
        obtain ⟨s0, hs⟩ : ∃ s, row0 ss = s := ⟨_, rfl⟩
        have VY := Lib.hid (valid_yes (ss := ss) (by omega) (by omega) (by omega) (by omega))
        have VN := Lib.hid (fun k hk => valid_no_row (ss := ss) (k := k) hk)
        rw [hs] at hin2 hc0 hs0 VY VN hw
        rw [hn] at hin VY hc hpos hl VN hp
        have HC := Lib.hid hc
        have hpb := blk_lt hp
        clear hs hc hn hN hz
        go_enter Tryd.func37, Tryd.ntmps37
        go_wp2_with fail
        refine (l01Side_any _ _).mono ?_
        rintro e w' ⟨rfl, rfl⟩
        rw [hin.out]
        go_wp2_with fail
        refine (l01Side_any _ _).mono ?_
        rintro e w' ⟨rfl, rfl⟩
        rw [hin2.out]
        go_wp2_with fail
        go_loopw [3] (fun yv wr => ∃ y : Nat, y ≤ n ∧ yv = .int .i64 y ∧ Hid (∀ j, j < y → rowB s0.size (ss.getD j ByteArray.empty) = true) ∧ Below w.heap.size w wr) (fun yv _ => n - (intOf yv).toNat)
        case atStart => exact ⟨0, Nat.zero_le _, rfl, fun j h => by omega, Below.refl _ _⟩
        case round =>
          obtain ⟨y, hy, rfl, H, hbel⟩ := hrel
          obtain ⟨wo, rfl⟩ : ∃ wo : World, wo = wr := ⟨_, rfl⟩
          have hp' := (hbel.cell (p := ⟨pb, po, none⟩) hpb).trans hp
          have hc0' := (hbel.cell (p := ⟨b, off, none⟩) hb).trans hc0
          by_cases hlt : y < n
          · have hcell := (hbel.cell (p := ⟨b, off + y, none⟩) hb).trans (HC.out y hlt)
            obtain ⟨s, hs⟩ : ∃ s, ss.getD y ByteArray.empty = s := ⟨_, rfl⟩
            have vn := VN.out y hlt
            rw [hs] at hcell vn
            have VN' := Lib.hid vn
            have Hs := Lib.hid hs
            have HB := Lib.hid hbel
            clear hs hbel vn
            have k0 : (0 : Int) ≤ (y : Int) := by omega
            have k1 : (y : Int) < (n : Int) := by omega
            have k2 : (0 : Int) < (n : Int) := by omega
            by_cases he : s.size = s0.size
            · have he2 : ((s.size : Int) == (s0.size : Int)) = true := by simp [he]
              have He := Lib.hid he
              clear he
              have hss : s.size ≤ 2 ^ 63 - 1 := by rw [He.out]; exact hs0
              go_wp2
              go_quiet (fail)
              go_wp2
              go_loopw [4] (fun xv wr => ∃ x : Nat, x ≤ s.size ∧ xv = .int .i64 x ∧ Hid (∀ (j : Nat) (hj : j < s.size), j < x → pixB (s[j]'hj) = true) ∧ Below wo.heap.size wo wr) (fun xv _ => s.size - (intOf xv).toNat)
              case atStart => exact ⟨0, Nat.zero_le _, rfl, fun j _ h => by omega, Joins.below_draws _ _ _⟩
              case round =>
                obtain ⟨x, hx, rfl, HX, hbx⟩ := hrel
                have hp2 := cell_kept hbx hp'
                have hcell2 := cell_kept hbx hcell
                have HBX := Lib.hid hbx
                clear hbx
                have j0 : (0 : Int) ≤ (x : Int) := by omega
                by_cases hxs : x < s.size
                · by_cases hpx : pixB (s[x]'hxs) = true
                  · rcases (show (s[x]'hxs).toNat = 35 ∨ (s[x]'hxs).toNat = 46 from by
                      unfold pixB at hpx
                      rcases Bool.or_eq_true_iff.1 hpx with h | h
                      · exact Or.inl (by rw [beq_iff_eq.1 h]; rfl)
                      · exact Or.inr (by rw [beq_iff_eq.1 h]; rfl)) with h35 | h46
                    · have b1 : (((s[x]'hxs).toNat : Int) != 35) = false := by simp [h35]
                      have HP := Lib.hid hpx
                      clear h35 hpx
                      go_wp2
                      go_roundw
                      case rel => exact ⟨x + 1, by omega, by go_num, fun j hj hjx => by
                        by_cases e : j = x
                        · subst e; exact HP.out
                        · exact HX.out j hj (by omega), HBX.out⟩
                      case measure => simp [intOf]; omega
                    · have b1 : (((s[x]'hxs).toNat : Int) != 35) = true := by simp [h46]
                      have b2 : (((s[x]'hxs).toNat : Int) != 46) = false := by simp [h46]
                      have HP := Lib.hid hpx
                      clear h46 hpx
                      go_wp2
                      go_roundw
                      case rel => exact ⟨x + 1, by omega, by go_num, fun j hj hjx => by
                        by_cases e : j = x
                        · subst e; exact HP.out
                        · exact HX.out j hj (by omega), HBX.out⟩
                      case measure => simp [intOf]; omega
                  · have hpf : pixB (s[x]'hxs) = false := by simpa using hpx
                    have hno := VN'.out (by unfold rowB; rw [pix_some hxs hpf]; simp)
                    have HNo := Lib.hid hno
                    have b1 : (((s[x]'hxs).toNat : Int) != 35) = true := by
                      rw [bne_iff_ne]; intro h
                      have : s[x] = 35 := UInt8.toNat_inj.1 (by show _ = (_ : Nat); exact Int.ofNat_inj.1 h)
                      simp [pixB, this] at hpf
                    have b2 : (((s[x]'hxs).toNat : Int) != 46) = true := by
                      rw [bne_iff_ne]; intro h
                      have : s[x] = 46 := UInt8.toNat_inj.1 (by show _ = (_ : Nat); exact Int.ofNat_inj.1 h)
                      simp [pixB, this] at hpf
                    clear hpf hpx hno
                    go_wp2
                    go_ret
                    exact ⟨ret_bool (a := false) HNo.out.symm, HB.out.trans (HBX.out.mono HB.out.size)⟩
                · have hrow : rowB s0.size s = true := by
                    unfold rowB
                    rw [pix_all (fun j hj => HX.out j hj (by omega))]
                    simp [He.out]
                  have HR := Lib.hid hrow
                  clear hrow
                  go_wp2
                  go_roundw
                  case rel => exact ⟨y + 1, by omega, by go_num, fun j hj => by
                    by_cases e : j = y
                    · subst e; rw [Hs.out]; exact HR.out
                    · exact H.out j (by omega), HB.out.trans (HBX.out.mono HB.out.size)⟩
                  case measure => simp [intOf]; omega
            · have he2 : ((s.size : Int) == (s0.size : Int)) = false := by simp; omega
              have hno := VN'.out (by unfold rowB; simp [he])
              have HNo := Lib.hid hno
              clear he hno
              go_wp2
              go_quiet (fail)
              go_wp2
              go_ret
              exact ⟨ret_bool (a := false) HNo.out.symm, HB.out.trans (Joins.below_draws _ _ _)⟩
          · obtain rfl : y = n := by omega
            have hyes := VY.out H.out
            have HYes := Lib.hid hyes
            have HB := Lib.hid hbel
            clear hyes hbel
            go_wp2
            go_ret
            exact ⟨ret_bool (a := true) HYes.out.symm, HB.out⟩
end Go.Proofs.YtnmnlbgialolhaaDoor

/- Contracts of single functions, and plain lemmas, on which the exact laws of this seat rest; each holds under the conditions that it states. -/
namespace Go.Proofs.YtnmnlbgialolhaaDoor
set_option linter.unusedVariables false
open Go.RowKit

/-! ### words: bit x is set where f x holds -/
def wordF (f : Nat → Bool) : Nat → Nat
  | 0 => 0
  | k + 1 => wordF f k + if f k then 2 ^ k else 0
theorem wordF_lt (f : Nat → Bool) (k : Nat) : wordF f k < 2 ^ k := by
  induction k with
  | zero => simp [wordF]
  | succ k ih => simp only [wordF, Nat.pow_succ]; split <;> omega
theorem wordF_or (f : Nat → Bool) (k : Nat) (h : f k = true) : wordF f k ||| 2 ^ k = wordF f (k + 1) := by
  have := nat_join k (2 ^ k) (wordF f k) (by simp) (wordF_lt f k)
  rw [Nat.or_comm, this]
  simp [wordF, h]; omega
theorem wordF_bit (f : Nat → Bool) (k i : Nat) : (wordF f k).testBit i = (decide (i < k) && f i) := by
  induction k with
  | zero => simp [wordF]
  | succ k ih =>
    by_cases h : f k = true
    · rw [← wordF_or f k h, Nat.testBit_or, ih, Nat.testBit_two_pow]
      by_cases e : k = i
      · subst e; simp [h]
      · simp [e]
        by_cases h1 : i < k
        · simp [h1, show i < k + 1 from by omega]
        · simp [h1, show ¬ i < k + 1 from by omega]
    · have hf : f k = false := by simpa using h
      simp only [wordF, hf]
      rw [show (if false = true then 2 ^ k else 0) = 0 from rfl, Nat.add_zero, ih]
      by_cases e : i = k
      · subst e; simp [hf]
      · by_cases h1 : i < k
        · simp [h1, show i < k + 1 from by omega]
        · simp [h1, show ¬ i < k + 1 from by omega]

/-- is the byte x of a row black -/
def blackAt (s : ByteArray) (x : Nat) : Bool := s.data.toList.getD x 0 == 35
theorem blackAt_eq (s : ByteArray) (x : Nat) (h : x < s.size) : blackAt s x = (s[x]'h == 35) := by
  unfold blackAt
  have : x < s.data.toList.length := by simpa using h
  rw [List.getD_eq_getElem?_getD, List.getElem?_eq_getElem this]
  rfl
def rowWord (s : ByteArray) : Nat := wordF (blackAt s) s.size

def goodRow (s : ByteArray) : Prop := 1 ≤ s.size ∧ s.size ≤ 16 ∧ ∀ (j : Nat) (hj : j < s.size), pixB (s[j]'hj) = true

theorem b35 {c : UInt8} (h : c.toNat = 35) : c = 35 := UInt8.toNat_inj.1 h
theorem b46 {c : UInt8} (h : c.toNat = 46) : c = 46 := UInt8.toNat_inj.1 h
theorem pix_cases {c : UInt8} (h : pixB c = true) : (c.toNat = 35 ∧ (c == 35) = true) ∨ (c.toNat = 46 ∧ (c == 35) = false) := by
  unfold pixB at h
  rcases Bool.or_eq_true_iff.1 h with h | h
  · exact Or.inl ⟨by rw [beq_iff_eq.1 h]; rfl, h⟩
  · exact Or.inr ⟨by rw [beq_iff_eq.1 h]; rfl, by rw [beq_iff_eq.1 h]; rfl⟩
theorem pix_not {c : UInt8} (h : pixB c = false) : c.toNat ≠ 35 ∧ c.toNat ≠ 46 := by
  constructor
  · intro e; rw [b35 e] at h; exact absurd h (by decide)
  · intro e; rw [b46 e] at h; exact absurd h (by decide)

theorem notEmpty {s : ByteArray} (h1 : 1 ≤ s.size) : s.toList.isEmpty = false := by
  rw [ByteArray.toList_eq]
  have hl : s.data.toList.length = s.size := by simp
  cases h : s.data.toList with
  | nil => rw [h, List.length_nil] at hl; omega
  | cons a l => rfl

theorem iter_below (w : World) (s : ByteArray) (pos : Nat) : Below w.heap.size w (w.iter s pos) := (Below.refl _ _).alloc (Nat.le_refl _) _

theorem orBit (W k : Nat) (hW : W < 2 ^ k) (hk : k ≤ 20) : bits .or .u32 (W : Int) ((2 : Int) ^ k % 4294967296) = ((W ||| 2 ^ k : Nat) : Int) := by
  have h2 : 2 ^ k ≤ 2 ^ 20 := Nat.pow_le_pow_right (by omega) hk
  have e : (2 : Int) ^ k % 4294967296 = ((2 ^ k : Nat) : Int) := by
    have : ((2 ^ k : Nat) : Int) = (2 : Int) ^ k := by simp
    rw [← this]; omega
  rw [e, u32_or_nat W (2 ^ k) (by omega) (by omega)]

set_option maxHeartbeats 1000000 in
set_option maxRecDepth 100000 in
theorem wordOfRow_yes (s : ByteArray) (w : World) (h : goodRow s) :
    Calls Tryd.prog 113 #[.string s] w fun e w' => e = .returned (.tuple #[.int .u32 (rowWord s), .nilIface]) ∧ Below w.heap.size w w' := by
  obtain ⟨h1, h16, hpx⟩ := h
  have HP := Lib.hid hpx
  clear hpx
  go_enter Tryd.func113, Tryd.ntmps113
  go_wp2
  go_loopw [4, 5, 6] (fun wv xv rv wr => ∃ k : Nat, k ≤ s.size ∧ wr = w.iter s k ∧ wv = .int .u32 (wordF (blackAt s) k)) (fun _ _ _ wr => s.size - wr.iterPos w.heap.size)
  case atStart => exact ⟨0, Nat.zero_le _, rfl, rfl⟩
  case round =>
    obtain ⟨k, hk, rfl, rfl⟩ := hrel
    by_cases hlt : k < s.size
    · have hnx : ∀ ty, (Instr.next (.pointer (some ⟨w.heap.size, 0, none⟩)) true ty).run Tryd.prog (w.iter s k) = _ := fun ty => run_next_any w s k ty hlt
      have hb := blackAt_eq s k hlt
      have hor := fun hh => (orBit _ k (wordF_lt (blackAt s) k) (by omega)).trans (congrArg (fun n : Nat => (n : Int)) (wordF_or (blackAt s) k hh))
      have hno : blackAt s k = false → wordF (blackAt s) (k + 1) = wordF (blackAt s) k := fun hh => by simp [wordF, hh]
      obtain ⟨W, hW⟩ : ∃ W, wordF (blackAt s) k = W := ⟨_, rfl⟩
      rw [hW] at hor hno ⊢
      have k16 : ¬ (k = 16) := by omega
      have k0 : (0 : Int) ≤ (k : Int) := by omega
      have k1 : (k : Int) < 16 := by omega
      have HOr := Lib.hid hor
      have HNo := Lib.hid hno
      have HW := Lib.hid hW
      have HB := Lib.hid hb
      clear hor hno hW hb
      rcases pix_cases (HP.out k hlt) with ⟨hc, hq⟩ | ⟨hc, hq⟩
      · rw [decode_ascii s k hlt (by omega), hc] at hnx
        have HQ := Lib.hid hq
        clear hc hq
        go_wp2
        go_roundw
        case rel => exact ⟨k + 1, by omega, rfl, congrArg (Value.int .u32) (HOr.out (by rw [HB.out]; exact HQ.out))⟩
        case measure => simp; omega
      · rw [decode_ascii s k hlt (by omega), hc] at hnx
        have HQ := Lib.hid hq
        clear hc hq
        go_wp2
        go_roundw
        case rel => exact ⟨k + 1, by omega, rfl, by rw [HNo.out (by rw [HB.out]; exact HQ.out)]⟩
        case measure => simp; omega
    · have hnx : ∀ ty, (Instr.next (.pointer (some ⟨w.heap.size, 0, none⟩)) true ty).run Tryd.prog (w.iter s k) = _ := fun ty => run_next_end w s k ty hlt
      have hks : k = s.size := by omega
      have hne : s.toList.isEmpty = false := by
        exact notEmpty h1
      have hW : wordF (blackAt s) k = rowWord s := by rw [hks]; rfl
      rw [hW]
      clear hW hks
      go_wp2
      go_ret2
      exact ⟨rfl, iter_below _ _ _⟩

def BadRow (w : World) (e : Ending) (w' : World) : Prop := ∃ T x, e = .returned (.tuple #[.int .u32 0, .iface T x]) ∧ Below w.heap.size w w'
/-- the error of a row's length lies there -/
def ErrLen (w : World) : Prop := ∃ T x, w.cell? ⟨4, 0, none⟩ = some (.iface T x)
theorem ErrLen.below {w w' : World} (h : ErrLen w) (hb : Below w.heap.size w w') : ErrLen w' := by
  obtain ⟨T, x, h⟩ := h
  exact ⟨T, x, cell_kept hb h⟩

theorem ErrLen.below2 {B : Nat} {w w' : World} (h : ErrLen w) (hb : Below B w w') (hB : w.heap.size ≤ B := by exact Nat.le_refl _) : ErrLen w' := h.below (hb.mono hB)

set_option maxHeartbeats 2000000 in
set_option maxRecDepth 100000 in
theorem wordOfRow_no (s : ByteArray) (w : World) (h : ¬ goodRow s) (he : ErrLen w) :
    Calls Tryd.prog 113 #[.string s] w (BadRow w) := by
  obtain ⟨T, x, hg⟩ := he
  have HG := Lib.hid h
  clear h
  go_enter Tryd.func113, Tryd.ntmps113
  go_wp2
  go_loopw [4, 5, 6] (fun wv xv rv wr => ∃ (k : Nat) (q : Int), k ≤ s.size ∧ k ≤ 16 ∧ wr = w.iter s k ∧ wv = .int .u32 q ∧ Hid (∀ (j : Nat) (hj : j < s.size), j < k → pixB (s[j]'hj) = true)) (fun _ _ _ wr => s.size - wr.iterPos w.heap.size)
  case atStart => exact ⟨0, 0, Nat.zero_le _, Nat.zero_le _, rfl, rfl, fun j _ h => by omega⟩
  case round =>
    obtain ⟨k, q, hk, hk16, rfl, rfl, H⟩ := hrel
    have hgk := cell_kept (iter_below w s k) hg
    by_cases hlt : k < s.size
    · have hnx : ∀ ty, (Instr.next (.pointer (some ⟨w.heap.size, 0, none⟩)) true ty).run Tryd.prog (w.iter s k) = _ := fun ty => run_next_any w s k ty hlt
      by_cases hpx : pixB (s[k]'hlt) = true
      · have H' : Hid (∀ (j : Nat) (hj : j < s.size), j < k + 1 → pixB (s[j]'hj) = true) := fun j hj hjk => by
          by_cases e : j = k
          · subst e; exact hpx
          · exact H.out j hj (by omega)
        have hgk' := cell_kept (iter_below w s (k + 1)) hg
        by_cases k16 : k = 16
        · subst k16
          rcases pix_cases hpx with ⟨hc, hq⟩ | ⟨hc, hq⟩
          all_goals
            rw [decode_ascii s 16 hlt (by omega), hc] at hnx
            clear hc hq hpx
            go_wp2
            go_quiet (fail)
            go_wp2
            go_ret2
            exact ⟨_, _, rfl, (iter_below _ _ _).trans (Joins.below_draws _ _ _)⟩
        · have k0 : (0 : Int) ≤ (k : Int) := by omega
          have k1 : (k : Int) < 16 := by omega
          rcases pix_cases hpx with ⟨hc, hq⟩ | ⟨hc, hq⟩
          all_goals
            rw [decode_ascii s k hlt (by omega), hc] at hnx
            clear hc hq hpx
            go_wp2
            go_roundw
            case rel => exact ⟨k + 1, _, by omega, by omega, rfl, rfl, H'⟩
            case measure => simp; omega
      · have hpf : pixB (s[k]'hlt) = false := by simpa using hpx
        obtain ⟨n35, n46⟩ := pix_not hpf
        obtain ⟨r, d, hd, hr35, hr46⟩ : ∃ (r d : Nat), Utf8.decode s k = (r, d) ∧ r ≠ 35 ∧ r ≠ 46 := by
          by_cases ha : (s[k]'hlt).toNat < 128
          · exact ⟨_, _, decode_ascii s k hlt ha, n35, n46⟩
          · have := (decode_high s k hlt (by omega)).1
            exact ⟨(Utf8.decode s k).1, (Utf8.decode s k).2, rfl, by omega, by omega⟩
        rw [hd] at hnx
        have c1 : ((r : Int) != 35) = true := by rw [bne_iff_ne]; omega
        have c2 : ((r : Int) != 46) = true := by rw [bne_iff_ne]; omega
        clear hd hr35 hr46 n35 n46 hpf hpx
        go_wp2
        go_ret2
        exact ⟨_, _, rfl, (iter_below _ _ _).trans (Joins.below_alloc1 _ _ |>.mono (by simp [World.iter]))⟩
    · have hnx : ∀ ty, (Instr.next (.pointer (some ⟨w.heap.size, 0, none⟩)) true ty).run Tryd.prog (w.iter s k) = _ := fun ty => run_next_end w s k ty hlt
      have hz : s.size = 0 := by
        rcases Nat.eq_zero_or_pos s.size with h | h
        · exact h
        · exact absurd ⟨h, by omega, fun j hj => H.out j hj (by omega)⟩ HG.out
      have hs : s = ByteArray.empty := WideShapes.bytes_inj (show s.data.toList = [] from List.length_eq_zero_iff.1 (by simpa using hz))
      subst hs
      obtain rfl : k = 0 := by omega
      go_wp2
      go_quiet (fail)
      go_wp2
      go_ret2
      exact ⟨_, _, rfl, (iter_below _ _ _).trans (Joins.below_draws _ _ _)⟩
end Go.Proofs.YtnmnlbgialolhaaDoor
