/- Contracts of single functions, and plain lemmas, on which the exact laws of this seat rest; each holds under the conditions that it states. -/
import Derived.Test.YtnmnlbgialolhaaDoorHd
namespace Go.Proofs.YtnmnlbgialolhaaDoor
set_option linter.unusedVariables false
open Go.RowKit

/-- between two numbers -/
def inB (n a b : Int) : Bool := decide (a ≤ n) && decide (n ≤ b)
theorem inB_yes {n a b : Int} (h1 : a ≤ n) (h2 : n ≤ b) : inB n a b = true := by simp [inB, h1, h2]
theorem inB_no {n a b : Int} (h : n < a ∨ b < n) : inB n a b = false := by simp [inB]; omega

set_option maxHeartbeats 400000 in
theorem l00In_any (n a b : Int) (w : World) : Calls Tryd.prog 77 #[.int .i64 n, .int .i64 a, .int .i64 b] w fun e w' => e = .returned (.bool (inB n a b)) ∧ w = w' := by
  by_cases h1 : a ≤ n
  · have e2 : Hid (inB n a b = decide (n ≤ b)) := by
      show inB n a b = _
      simp [inB, h1]
    go_enter Tryd.func77, Tryd.ntmps77
    go_wp2
    go_ret
    exact ⟨ret_bool e2.out.symm, rfl⟩
  · have e2 : Hid (inB n a b = false) := by
      show inB n a b = _
      simp [inB, h1]
    go_enter Tryd.func77, Tryd.ntmps77
    go_wp2
    go_ret
    exact ⟨ret_bool (a := false) e2.out.symm, rfl⟩

theorem l01Side_any (n : Int) (w : World) : Calls Tryd.prog 85 #[.int .i64 n] w fun e w' => e = .returned (.bool (inB n 1 16)) ∧ w = w' := by
  go_enter Tryd.func85, Tryd.ntmps85
  go_wp2_with fail
  refine (l00In_any _ _ _ _).mono ?_
  rintro e w' ⟨rfl, rfl⟩
  go_wp2_with fail
  go_ret
  exact ⟨rfl, rfl⟩

/-- A row of a valid picture. -/
def pixB (c : UInt8) : Bool := c == 35 || c == 46
def rowB (wd : Nat) (s : ByteArray) : Bool := decide (s.size = wd) && s.data.toList.all pixB
def row0 (ss : List ByteArray) : ByteArray := ss.getD 0 ByteArray.empty
def validB (ss : List ByteArray) : Bool := decide (1 ≤ ss.length) && decide (ss.length ≤ 16) && decide (1 ≤ (row0 ss).size) && decide ((row0 ss).size ≤ 16) && ss.all (rowB (row0 ss).size)

theorem pix_all {s : ByteArray} (h : ∀ (j : Nat) (hj : j < s.size), pixB (s[j]'hj) = true) : s.data.toList.all pixB = true := by
  rw [List.all_eq_true]
  intro c hc
  obtain ⟨k, hk, rfl⟩ := List.getElem_of_mem hc
  exact h k (by simpa using hk)
theorem pix_some {s : ByteArray} {k : Nat} (hk : k < s.size) (h : pixB (s[k]'hk) = false) : s.data.toList.all pixB = false := by
  rw [List.all_eq_false]
  exact ⟨s[k], Array.mem_toList_iff.2 (Array.getElem_mem _), by simp [h]⟩
theorem valid_no_len {ss : List ByteArray} (h : ss.length < 1 ∨ 16 < ss.length) : validB ss = false := by
  unfold validB
  rcases h with h | h
  · simp [show ¬ 1 ≤ ss.length from by omega]
  · simp [show ¬ ss.length ≤ 16 from by omega]
theorem valid_no_wd {ss : List ByteArray} (h : (row0 ss).size < 1 ∨ 16 < (row0 ss).size) : validB ss = false := by
  unfold validB
  rcases h with h | h
  · simp [show ¬ 1 ≤ (row0 ss).size from by omega]
  · simp [show ¬ (row0 ss).size ≤ 16 from by omega]
theorem valid_no_row {ss : List ByteArray} {k : Nat} (hk : k < ss.length) (h : rowB (row0 ss).size (ss.getD k ByteArray.empty) = false) : validB ss = false := by
  unfold validB
  have : ss.all (rowB (row0 ss).size) = false := by
    rw [List.all_eq_false]
    refine ⟨ss[k], List.getElem_mem _, ?_⟩
    rw [List.getD_eq_getElem?_getD, List.getElem?_eq_getElem hk] at h
    simpa using h
  simp [this]
theorem valid_yes {ss : List ByteArray} (h1 : 1 ≤ ss.length) (h2 : ss.length ≤ 16) (h3 : 1 ≤ (row0 ss).size) (h4 : (row0 ss).size ≤ 16) (h : ∀ j, j < ss.length → rowB (row0 ss).size (ss.getD j ByteArray.empty) = true) : validB ss = true := by
  unfold validB
  have : ss.all (rowB (row0 ss).size) = true := by
    rw [List.all_eq_true]
    intro s hs
    obtain ⟨k, hk, rfl⟩ := List.getElem_of_mem hs
    have := h k hk
    rwa [List.getD_eq_getElem?_getD, List.getElem?_eq_getElem hk] at this
  simp [h1, h2, h3, h4, this]

set_option maxHeartbeats 2000000 in
set_option maxRecDepth 100000 in
theorem l01Is_any (pb po : Nat) (v : Value) (ss : List ByteArray) (w : World) (hp : w.cell? ⟨pb, po, none⟩ = some v) (hv : Sl w v ss) (hN : ss.length ≤ maxLen) (hz : ∀ s ∈ ss, s.size ≤ maxLen) :
    Calls Tryd.prog 37 #[.pointer (some ⟨pb, po, none⟩)] w (SaysB (validB ss) w) := by
  unfold maxLen at hN hz
  have fv : ∃ ao cap, v = .slice ao ss.length cap := by
    rcases hv with ⟨ao, cap, rfl, rfl⟩ | ⟨b, off, cap, rfl, _⟩
    · exact ⟨_, _, rfl⟩
    · exact ⟨_, _, rfl⟩
  by_cases hl : ss.length < 1 ∨ 16 < ss.length
  · have hno := Lib.hid (valid_no_len hl)
    have hin := Lib.hid (inB_no (n := ss.length) (a := 1) (b := 16) (by omega))
    obtain ⟨ao, cap, rfl⟩ := fv
    clear hv
    go_enter Tryd.func37, Tryd.ntmps37
    go_wp2_with fail
    refine (l01Side_any _ _).mono ?_
    rintro e w' ⟨rfl, rfl⟩
    rw [hin.out]
    go_wp2_with fail
    go_ret
    exact ⟨ret_bool (a := false) hno.out.symm, Below.refl _ _⟩
  · rcases hv with ⟨ao, cap, rfl, rfl⟩ | ⟨b, off, cap, rfl, hpos, hb, hc⟩
    · simp at hl
    · clear fv
      have hin := Lib.hid (inB_yes (n := ss.length) (a := 1) (b := 16) (by omega) (by omega))
      have hc0 := hc 0 hpos
      have hr0 : ss.getD 0 ByteArray.empty = row0 ss := rfl
      rw [Nat.add_zero, hr0] at hc0
      have hs0 : (row0 ss).size ≤ 2 ^ 63 - 1 := by
        refine hz _ ?_
        unfold row0
        rw [List.getD_eq_getElem?_getD, List.getElem?_eq_getElem hpos]
        exact List.getElem_mem _
      clear hr0
      by_cases hw : (row0 ss).size < 1 ∨ 16 < (row0 ss).size
      · have hno := Lib.hid (valid_no_wd hw)
        have hin2 := Lib.hid (inB_no (n := (row0 ss).size) (a := 1) (b := 16) (by omega))
        obtain ⟨s0, hs⟩ : ∃ s, row0 ss = s := ⟨_, rfl⟩
        rw [hs] at hin2 hc0 hs0
        clear hs hc hw
        go_enter Tryd.func37, Tryd.ntmps37
        go_wp2_with fail
        refine (l01Side_any _ _).mono ?_
        rintro e w' ⟨rfl, rfl⟩
        rw [hin.out]
        go_wp2_with fail
        refine (l01Side_any _ _).mono ?_
        rintro e w' ⟨rfl, rfl⟩
        rw [hin2.out]
        go_wp2_with fail
        go_ret
        exact ⟨ret_bool (a := false) hno.out.symm, Below.refl _ _⟩
      · have hin2 := Lib.hid (inB_yes (n := (row0 ss).size) (a := 1) (b := 16) (by omega) (by omega))
        obtain ⟨n, hn⟩ : ∃ n, ss.length = n := ⟨_, rfl⟩
        obtain ⟨s0, hs⟩ : ∃ s, row0 ss = s := ⟨_, rfl⟩
        have VY := Lib.hid (valid_yes (ss := ss) (by omega) (by omega) (by omega) (by omega))
        have VN := Lib.hid (fun k hk => valid_no_row (ss := ss) (k := k) hk)
        rw [hs] at hin2 hc0 hs0 VY VN hw
        rw [hn] at hin VY hc hpos hl VN hp
        have HC := Lib.hid hc
        have hpb := blk_lt hp
        clear hs hc hn hN hz
        go_enter Tryd.func37, Tryd.ntmps37
        go_wp2_with fail
        refine (l01Side_any _ _).mono ?_
        rintro e w' ⟨rfl, rfl⟩
        rw [hin.out]
        go_wp2_with fail
        refine (l01Side_any _ _).mono ?_
        rintro e w' ⟨rfl, rfl⟩
        rw [hin2.out]
        go_wp2_with fail
        go_loopw [3] (fun yv wr => ∃ y : Nat, y ≤ n ∧ yv = .int .i64 y ∧ Hid (∀ j, j < y → rowB s0.size (ss.getD j ByteArray.empty) = true) ∧ Below w.heap.size w wr) (fun yv _ => n - (intOf yv).toNat)
        case atStart => exact ⟨0, Nat.zero_le _, rfl, fun j h => by omega, Below.refl _ _⟩
        case round =>
          obtain ⟨y, hy, rfl, H, hbel⟩ := hrel
          obtain ⟨wo, rfl⟩ : ∃ wo : World, wo = wr := ⟨_, rfl⟩
          have hp' := (hbel.cell (p := ⟨pb, po, none⟩) hpb).trans hp
          have hc0' := (hbel.cell (p := ⟨b, off, none⟩) hb).trans hc0
          by_cases hlt : y < n
          · have hcell := (hbel.cell (p := ⟨b, off + y, none⟩) hb).trans (HC.out y hlt)
            obtain ⟨s, hs⟩ : ∃ s, ss.getD y ByteArray.empty = s := ⟨_, rfl⟩
            have vn := VN.out y hlt
            rw [hs] at hcell vn
            have VN' := Lib.hid vn
            have Hs := Lib.hid hs
            have HB := Lib.hid hbel
            clear hs hbel vn
            have k0 : (0 : Int) ≤ (y : Int) := by omega
            have k1 : (y : Int) < (n : Int) := by omega
            have k2 : (0 : Int) < (n : Int) := by omega
            by_cases he : s.size = s0.size
            · have he2 : ((s.size : Int) == (s0.size : Int)) = true := by simp [he]
              have He := Lib.hid he
              clear he
              have hss : s.size ≤ 2 ^ 63 - 1 := by rw [He.out]; exact hs0
              go_wp2
              go_quiet (fail)
              go_wp2
              go_loopw [4] (fun xv wr => ∃ x : Nat, x ≤ s.size ∧ xv = .int .i64 x ∧ Hid (∀ (j : Nat) (hj : j < s.size), j < x → pixB (s[j]'hj) = true) ∧ Below wo.heap.size wo wr) (fun xv _ => s.size - (intOf xv).toNat)
              case atStart => exact ⟨0, Nat.zero_le _, rfl, fun j _ h => by omega, Joins.below_draws _ _ _⟩
              case round =>
                obtain ⟨x, hx, rfl, HX, hbx⟩ := hrel
                have hp2 := cell_kept hbx hp'
                have hcell2 := cell_kept hbx hcell
                have HBX := Lib.hid hbx
                clear hbx
                have j0 : (0 : Int) ≤ (x : Int) := by omega
                by_cases hxs : x < s.size
                · by_cases hpx : pixB (s[x]'hxs) = true
                  · rcases (show (s[x]'hxs).toNat = 35 ∨ (s[x]'hxs).toNat = 46 from by
                      unfold pixB at hpx
                      rcases Bool.or_eq_true_iff.1 hpx with h | h
                      · exact Or.inl (by rw [beq_iff_eq.1 h]; rfl)
                      · exact Or.inr (by rw [beq_iff_eq.1 h]; rfl)) with h35 | h46
                    · have b1 : (((s[x]'hxs).toNat : Int) != 35) = false := by simp [h35]
                      have HP := Lib.hid hpx
                      clear h35 hpx
                      go_wp2
                      go_roundw
                      case rel => exact ⟨x + 1, by omega, by go_num, fun j hj hjx => by
                        by_cases e : j = x
                        · subst e; exact HP.out
                        · exact HX.out j hj (by omega), HBX.out⟩
                      case measure => simp [intOf]; omega
                    · have b1 : (((s[x]'hxs).toNat : Int) != 35) = true := by simp [h46]
                      have b2 : (((s[x]'hxs).toNat : Int) != 46) = false := by simp [h46]
                      have HP := Lib.hid hpx
                      clear h46 hpx
                      go_wp2
                      go_roundw
                      case rel => exact ⟨x + 1, by omega, by go_num, fun j hj hjx => by
                        by_cases e : j = x
                        · subst e; exact HP.out
                        · exact HX.out j hj (by omega), HBX.out⟩
                      case measure => simp [intOf]; omega
                  · have hpf : pixB (s[x]'hxs) = false := by simpa using hpx
                    have hno := VN'.out (by unfold rowB; rw [pix_some hxs hpf]; simp)
                    have HNo := Lib.hid hno
                    have b1 : (((s[x]'hxs).toNat : Int) != 35) = true := by
                      rw [bne_iff_ne]; intro h
                      have : s[x] = 35 := UInt8.toNat_inj.1 (by show _ = (_ : Nat); exact Int.ofNat_inj.1 h)
                      simp [pixB, this] at hpf
                    have b2 : (((s[x]'hxs).toNat : Int) != 46) = true := by
                      rw [bne_iff_ne]; intro h
                      have : s[x] = 46 := UInt8.toNat_inj.1 (by show _ = (_ : Nat); exact Int.ofNat_inj.1 h)
                      simp [pixB, this] at hpf
                    clear hpf hpx hno
                    go_wp2
                    go_ret
                    exact ⟨ret_bool (a := false) HNo.out.symm, HB.out.trans (HBX.out.mono HB.out.size)⟩
                · have hrow : rowB s0.size s = true := by
                    unfold rowB
                    rw [pix_all (fun j hj => HX.out j hj (by omega))]
                    simp [He.out]
                  have HR := Lib.hid hrow
                  clear hrow
                  go_wp2
                  go_roundw
                  case rel => exact ⟨y + 1, by omega, by go_num, fun j hj => by
                    by_cases e : j = y
                    · subst e; rw [Hs.out]; exact HR.out
                    · exact H.out j (by omega), HB.out.trans (HBX.out.mono HB.out.size)⟩
                  case measure => simp [intOf]; omega
            · have he2 : ((s.size : Int) == (s0.size : Int)) = false := by simp; omega
              have hno := VN'.out (by unfold rowB; simp [he])
              have HNo := Lib.hid hno
              clear he hno
              go_wp2
              go_quiet (fail)
              go_wp2
              go_ret
              exact ⟨ret_bool (a := false) HNo.out.symm, HB.out.trans (Joins.below_draws _ _ _)⟩
          · obtain rfl : y = n := by omega
            have hyes := VY.out H.out
            have HYes := Lib.hid hyes
            have HB := Lib.hid hbel
            clear hyes hbel
            go_wp2
            go_ret
            exact ⟨ret_bool (a := true) HYes.out.symm, HB.out⟩
end Go.Proofs.YtnmnlbgialolhaaDoor
