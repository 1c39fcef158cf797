/- Contracts of single functions, and plain lemmas, on which the exact laws of this seat rest; each holds under the conditions that it states. -/
import Derived.Test.YtmfaonddhmhjeaaDoorIs
namespace Go.Proofs.YtmfaonddhmhjeaaDoor
set_option linter.unusedVariables false
open Go.RowKit

/-- no more than draws -/
def Dr (w w' : World) : Prop := ∃ q, w' = w.drewN q
theorem Dr.refl (w : World) : Dr w w := ⟨0, rfl⟩
theorem Dr.trans {w w1 w2 : World} (h : Dr w w1) (h2 : Dr w1 w2) : Dr w w2 := by
  obtain ⟨a, rfl⟩ := h
  obtain ⟨b, rfl⟩ := h2
  exact ⟨a + b, by rw [World.drewN_drewN]⟩
theorem Dr.below {w w' : World} {B : Nat} (h : Dr w w') : Below B w w' := by
  obtain ⟨a, rfl⟩ := h
  exact Joins.below_draws _ _ _
/-- a bool, with no more than draws -/
def QuietB (b : Bool) (w : World) (e : Ending) (w' : World) : Prop := e = .returned (.bool b) ∧ Dr w w'
theorem quiet_left {P : Program} {f : FuncId} {args : Array Value} {w : World} {n : Nat} {v : Value}
    (h : Calls P f args (w.drewN n) fun e w' => e = .returned v ∧ w.drewN n = w') : Calls P f args (w.drewN n) fun e w'' => e = .returned v ∧ ∃ m, w'' = w.drewN m :=
  h.mono fun _ _ ⟨he, hm⟩ => ⟨he, n, hm.symm⟩
theorem quiet_dr {P : Program} {f : FuncId} {args : Array Value} {w : World} {n : Nat} {b : Bool}
    (h : Calls P f args (w.drewN n) (QuietB b (w.drewN n))) : Calls P f args (w.drewN n) fun e w'' => e = .returned (.bool b) ∧ ∃ m, w'' = w.drewN m :=
  h.mono fun _ _ ⟨he, m, hm⟩ => ⟨he, n + m, by rw [hm, World.drewN_drewN]⟩

set_option maxHeartbeats 2000000 in
set_option maxRecDepth 100000 in
theorem l01Is_quiet (pb po : Nat) (v : Value) (ss : List ByteArray) (w : World) (hp : w.cell? ⟨pb, po, none⟩ = some v) (hv : Sl w v ss) (hN : ss.length ≤ maxLen) (hz : ∀ s ∈ ss, s.size ≤ maxLen) :
    Calls Tryd.prog 45 #[.pointer (some ⟨pb, po, none⟩)] w (QuietB (validB ss) w) := by
  unfold maxLen at hN hz
  have fv : ∃ ao cap, v = .slice ao ss.length cap := by
    rcases hv with ⟨ao, cap, rfl, rfl⟩ | ⟨b, off, cap, rfl, _⟩
    · exact ⟨_, _, rfl⟩
    · exact ⟨_, _, rfl⟩
  by_cases hl : ss.length < 1 ∨ 16 < ss.length
  · have hno := Lib.hid (valid_no_len hl)
    have hin := Lib.hid (inB_no (n := ss.length) (a := 1) (b := 16) (by omega))
    obtain ⟨ao, cap, rfl⟩ := fv
    clear hv
    go_enter Tryd.func45, Tryd.ntmps45
    go_wp2_with fail
    refine (l01Side_any _ _).mono ?_
    rintro e w' ⟨rfl, rfl⟩
    rw [hin.out]
    go_wp2_with fail
    go_ret
    exact ⟨ret_bool (a := false) hno.out.symm, Dr.refl _⟩
  · rcases hv with ⟨ao, cap, rfl, rfl⟩ | ⟨b, off, cap, rfl, hpos, hb, hc⟩
    · simp at hl
    · clear fv
      have hin := Lib.hid (inB_yes (n := ss.length) (a := 1) (b := 16) (by omega) (by omega))
      have hc0 := hc 0 hpos
      have hr0 : ss.getD 0 ByteArray.empty = row0 ss := rfl
      rw [Nat.add_zero, hr0] at hc0
      have hs0 : (row0 ss).size ≤ 2 ^ 63 - 1 := by
        refine hz _ ?_
        unfold row0
        rw [List.getD_eq_getElem?_getD, List.getElem?_eq_getElem hpos]
        exact List.getElem_mem _
      clear hr0
      by_cases hw : (row0 ss).size < 1 ∨ 16 < (row0 ss).size
      · have hno := Lib.hid (valid_no_wd hw)
        have hin2 := Lib.hid (inB_no (n := (row0 ss).size) (a := 1) (b := 16) (by omega))
        obtain ⟨s0, hs⟩ : ∃ s, row0 ss = s := ⟨_, rfl⟩
        rw [hs] at hin2 hc0 hs0
        clear hs hc hw
        go_enter Tryd.func45, Tryd.ntmps45
        go_wp2_with fail
        refine (l01Side_any _ _).mono ?_
        rintro e w' ⟨rfl, rfl⟩
        rw [hin.out]
        go_wp2_with fail
        refine (l01Side_any _ _).mono ?_
        rintro e w' ⟨rfl, rfl⟩
        rw [hin2.out]
        go_wp2_with fail
        go_ret
        exact ⟨ret_bool (a := false) hno.out.symm, Dr.refl _⟩
      · have hin2 := Lib.hid (inB_yes (n := (row0 ss).size) (a := 1) (b := 16) (by omega) (by omega))
        obtain ⟨n, hn⟩ : ∃ n, ss.length = n := ⟨_, rfl⟩
        obtain ⟨s0, hs⟩ : ∃ s, row0 ss = s := ⟨_, rfl⟩
        have VY := Lib.hid (valid_yes (ss := ss) (by omega) (by omega) (by omega) (by omega))
        have VN := Lib.hid (fun k hk => valid_no_row (ss := ss) (k := k) hk)
        rw [hs] at hin2 hc0 hs0 VY VN hw
        rw [hn] at hin VY hc hpos hl VN hp
        have HC := Lib.hid hc
        have hpb := blk_lt hp
        clear hs hc hn hN hz
        go_enter Tryd.func45, Tryd.ntmps45
        go_wp2_with fail
        refine (l01Side_any _ _).mono ?_
        rintro e w' ⟨rfl, rfl⟩
        rw [hin.out]
        go_wp2_with fail
        refine (l01Side_any _ _).mono ?_
        rintro e w' ⟨rfl, rfl⟩
        rw [hin2.out]
        go_wp2_with fail
        go_loopw [3] (fun yv wr => ∃ y : Nat, y ≤ n ∧ yv = .int .i64 y ∧ Hid (∀ j, j < y → rowB s0.size (ss.getD j ByteArray.empty) = true) ∧ Dr w wr) (fun yv _ => n - (intOf yv).toNat)
        case atStart => exact ⟨0, Nat.zero_le _, rfl, fun j h => by omega, Dr.refl _⟩
        case round =>
          obtain ⟨y, hy, rfl, H, hbel⟩ := hrel
          obtain ⟨wo, rfl⟩ : ∃ wo : World, wo = wr := ⟨_, rfl⟩
          have hp' := (hbel.below.cell (p := ⟨pb, po, none⟩) hpb).trans hp
          have hc0' := (hbel.below.cell (p := ⟨b, off, none⟩) hb).trans hc0
          by_cases hlt : y < n
          · have hcell := (hbel.below.cell (p := ⟨b, off + y, none⟩) hb).trans (HC.out y hlt)
            obtain ⟨s, hs⟩ : ∃ s, ss.getD y ByteArray.empty = s := ⟨_, rfl⟩
            have vn := VN.out y hlt
            rw [hs] at hcell vn
            have VN' := Lib.hid vn
            have Hs := Lib.hid hs
            have HB := Lib.hid hbel
            clear hs hbel vn
            have k0 : (0 : Int) ≤ (y : Int) := by omega
            have k1 : (y : Int) < (n : Int) := by omega
            have k2 : (0 : Int) < (n : Int) := by omega
            by_cases he : s.size = s0.size
            · have he2 : ((s.size : Int) == (s0.size : Int)) = true := by simp [he]
              have He := Lib.hid he
              clear he
              have hss : s.size ≤ 2 ^ 63 - 1 := by rw [He.out]; exact hs0
              go_wp2
              go_quiet (fail)
              go_wp2
              go_loopw [4] (fun xv wr => ∃ x : Nat, x ≤ s.size ∧ xv = .int .i64 x ∧ Hid (∀ (j : Nat) (hj : j < s.size), j < x → pixB (s[j]'hj) = true) ∧ Dr wo wr) (fun xv _ => s.size - (intOf xv).toNat)
              case atStart => exact ⟨0, Nat.zero_le _, rfl, fun j _ h => by omega, ⟨_, rfl⟩⟩
              case round =>
                obtain ⟨x, hx, rfl, HX, hbx⟩ := hrel
                have hp2 := cell_kept hbx.below hp'
                have hcell2 := cell_kept hbx.below hcell
                have HBX := Lib.hid hbx
                clear hbx
                have j0 : (0 : Int) ≤ (x : Int) := by omega
                by_cases hxs : x < s.size
                · by_cases hpx : pixB (s[x]'hxs) = true
                  · rcases (show (s[x]'hxs).toNat = 35 ∨ (s[x]'hxs).toNat = 46 from by
                      unfold pixB at hpx
                      rcases Bool.or_eq_true_iff.1 hpx with h | h
                      · exact Or.inl (by rw [beq_iff_eq.1 h]; rfl)
                      · exact Or.inr (by rw [beq_iff_eq.1 h]; rfl)) with h35 | h46
                    · have b1 : (((s[x]'hxs).toNat : Int) != 35) = false := by simp [h35]
                      have HP := Lib.hid hpx
                      clear h35 hpx
                      go_wp2
                      go_roundw
                      case rel => exact ⟨x + 1, by omega, by go_num, fun j hj hjx => by
                        by_cases e : j = x
                        · subst e; exact HP.out
                        · exact HX.out j hj (by omega), HBX.out⟩
                      case measure => simp [intOf]; omega
                    · have b1 : (((s[x]'hxs).toNat : Int) != 35) = true := by simp [h46]
                      have b2 : (((s[x]'hxs).toNat : Int) != 46) = false := by simp [h46]
                      have HP := Lib.hid hpx
                      clear h46 hpx
                      go_wp2
                      go_roundw
                      case rel => exact ⟨x + 1, by omega, by go_num, fun j hj hjx => by
                        by_cases e : j = x
                        · subst e; exact HP.out
                        · exact HX.out j hj (by omega), HBX.out⟩
                      case measure => simp [intOf]; omega
                  · have hpf : pixB (s[x]'hxs) = false := by simpa using hpx
                    have hno := VN'.out (by unfold rowB; rw [pix_some hxs hpf]; simp)
                    have HNo := Lib.hid hno
                    have b1 : (((s[x]'hxs).toNat : Int) != 35) = true := by
                      rw [bne_iff_ne]; intro h
                      have : s[x] = 35 := UInt8.toNat_inj.1 (by show _ = (_ : Nat); exact Int.ofNat_inj.1 h)
                      simp [pixB, this] at hpf
                    have b2 : (((s[x]'hxs).toNat : Int) != 46) = true := by
                      rw [bne_iff_ne]; intro h
                      have : s[x] = 46 := UInt8.toNat_inj.1 (by show _ = (_ : Nat); exact Int.ofNat_inj.1 h)
                      simp [pixB, this] at hpf
                    clear hpf hpx hno
                    go_wp2
                    go_ret
                    exact ⟨ret_bool (a := false) HNo.out.symm, HB.out.trans HBX.out⟩
                · have hrow : rowB s0.size s = true := by
                    unfold rowB
                    rw [pix_all (fun j hj => HX.out j hj (by omega))]
                    simp [He.out]
                  have HR := Lib.hid hrow
                  clear hrow
                  go_wp2
                  go_roundw
                  case rel => exact ⟨y + 1, by omega, by go_num, fun j hj => by
                    by_cases e : j = y
                    · subst e; rw [Hs.out]; exact HR.out
                    · exact H.out j (by omega), HB.out.trans HBX.out⟩
                  case measure => simp [intOf]; omega
            · have he2 : ((s.size : Int) == (s0.size : Int)) = false := by simp; omega
              have hno := VN'.out (by unfold rowB; simp [he])
              have HNo := Lib.hid hno
              clear he hno
              go_wp2
              go_quiet (fail)
              go_wp2
              go_ret
              exact ⟨ret_bool (a := false) HNo.out.symm, HB.out.trans ⟨_, rfl⟩⟩
          · obtain rfl : y = n := by omega
            have hyes := VY.out H.out
            have HYes := Lib.hid hyes
            have HB := Lib.hid hbel
            clear hyes hbel
            go_wp2
            go_ret
            exact ⟨ret_bool (a := true) HYes.out.symm, HB.out⟩
end Go.Proofs.YtmfaonddhmhjeaaDoor
