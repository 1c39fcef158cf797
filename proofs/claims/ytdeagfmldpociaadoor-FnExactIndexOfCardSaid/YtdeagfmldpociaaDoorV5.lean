/- Contracts of single functions, and plain lemmas, on which the exact laws of this seat rest; each holds under the conditions that it states. -/
import Derived.Test.YtdeagfmldpociaaDoorV1
import Derived.Test.YtdeagfmldpociaaDoorV4
namespace Go.Proofs.YtdeagfmldpociaaDoor
set_option linter.unusedVariables false
set_option linter.unusedSimpArgs false
open Go.RowKit

set_option maxHeartbeats 1000000 in
theorem eqInt64R (u v : Value) (n : Nat) (f : Nat → List Int) (w : World) (hN : n ≤ 1048576) (hf : ∀ i, i < n → (f i).length ≤ maxLen) (hu : SlR w u n f) (hv : SlR w v n f) :
    Calls Tryd.prog 27 #[u, v] w (fun e w' => e = .returned (.bool true) ∧ Below w.heap.size w w') := by
  rcases hu with ⟨ao, cap, rfl, rfl⟩ | ⟨b, off, cap, us, rfl, hpos, hb, hc⟩
  · obtain ⟨ao2, cap2, rfl⟩ := hv.form
    go_enter Tryd.func27, Tryd.ntmps27
    go_wp2
    refine wp_loop_rounds 1 ?_; rw [rounds_succ]
    go_wp2
    go_ret
    exact ⟨rfl, Below.refl _ _⟩
  · rcases hv with ⟨ao2, cap2, rfl, h0⟩ | ⟨b2, off2, cap2, us2, rfl, hpos2, hb2, hc2⟩
    · omega
    · have HC := Lib.hid hc
      have HC2 := Lib.hid hc2
      have HF := Lib.hid hf
      clear hc hc2 hpos2 hf
      go_enter Tryd.func27, Tryd.ntmps27
      go_wp2
      go_loopw [5] (fun i wr => ∃ k : Nat, k ≤ n ∧ i = .int .i64 k ∧ Below w.heap.size w wr) (fun i _ => n - (intOf i).toNat)
      case atStart => exact ⟨0, Nat.zero_le _, rfl, Below.refl _ _⟩
      case round =>
        obtain ⟨k, hk, rfl, hbel⟩ := hrel
        by_cases hlt : k < n
        · have hx := cell_kept hbel (HC.out k hlt).1
          have hy := cell_kept hbel (HC2.out k hlt).1
          have sx := (HC.out k hlt).2.below hbel
          have sy := (HC2.out k hlt).2.below hbel
          have CE : Hid (∀ W, Below wr.heap.size wr W → Calls Tryd.prog 45 #[us k, us2 k] W (fun e w' => e = .returned (.bool true) ∧ Below W.heap.size W w')) := fun W hb => eqInt64N _ _ (f k) W (HF.out k hlt) (sx.below hb) (sy.below hb)
          obtain ⟨ax, cx, ex⟩ := sx.form
          obtain ⟨ay, cy, ey⟩ := sy.form
          obtain ⟨m, hm⟩ : ∃ m, (f k).length = m := ⟨_, rfl⟩
          rw [hm] at ex ey
          rw [ex] at CE hx
          rw [ey] at CE hy
          have HX : Hid (∀ W, Below wr.heap.size wr W → W.cell? ⟨b, off + k, none⟩ = some (.slice ax m cx) ∧ W.cell? ⟨b2, off2 + k, none⟩ = some (.slice ay m cy)) := fun W hb => ⟨cell_kept hb hx, cell_kept hb hy⟩
          have HB := Lib.hid hbel
          have k0 : (0 : Int) ≤ (k : Int) := by omega
          have k1 : (k : Int) < (n : Int) := by omega
          clear hbel hx hy sx sy ex ey hm
          go_wp2
          go_region_held3 (fun w' => w'.cell? ⟨b, off + k, none⟩ = some (.slice ax m cx) ∧ w'.cell? ⟨b2, off2 + k, none⟩ = some (.slice ay m cy))
            (first | exact HX.out _ (Below.refl _ _).drew | exact HX.out _ ((Below.refl _ _).drew.trans hb1))
            (first | (go_at_call 45; refine (CE.out _ (Below.refl _ _).drew).mono ?_; rintro e w1 ⟨rfl, hb1⟩))
          have HB1 : Hid (Below w.heap.size w w1) := HB.out.trans (((Below.refl wr.heap.size wr).drew.trans hb1).mono HB.out.size)
          clear hb1
          go_wp2
          go_roundw
          case rel => exact ⟨k + 1, by omega, by go_num, HB1.out⟩
          case measure => simp [intOf]; omega
        · obtain rfl : k = n := by omega
          have HB := Lib.hid hbel
          clear hbel
          go_wp2
          go_ret
          exact ⟨rfl, HB.out⟩

set_option maxHeartbeats 1000000 in
theorem markInt64R (lo hi : Nat) (v : Value) (us : Nat → Value) (n : Nat) (f : Nat → List Int) (k : Nat) (w : World) (hN : n ≤ 1048576) (hT : k + offR f n ≤ 1048576) (hlo : lo ≤ w.heap.size) (hv : OwnR w lo hi v us n f) :
    Calls Tryd.prog 28 #[v, .int .i64 k] w (fun e w' => e = .returned (.int .i64 ((k + offR f n : Nat) : Int)) ∧ OwnR w' lo hi v us n (markR f k) ∧ Below lo w w') := by
  rcases Joins.ownsRow_forms hv.row with ⟨rfl, h0⟩ | ⟨g, cap, rfl⟩
  · subst h0
    clear hv
    go_enter Tryd.func28, Tryd.ntmps28
    go_wp2
    refine wp_loop_rounds 1 ?_; rw [rounds_succ]
    go_wp2
    go_ret
    exact ⟨rfl, OwnR.nil _ _ _ _ _, Below.refl _ _⟩
  · have HV : Hid (OwnR w lo hi (.slice (some ⟨g, 0, none⟩) n cap) us n (mixR f k 0)) := hv.congr fun i hi' => by simp [mixR]
    have HOf : Hid (∀ j, j < n → k + offR f (j + 1) ≤ 1048576) := fun j hj => by have := offR_le f (show j + 1 ≤ n by omega); omega
    clear hv hT
    go_enter Tryd.func28, Tryd.ntmps28
    go_wp2
    go_loopw [1, 5] (fun kv iv wr => ∃ j : Nat, j ≤ n ∧ iv = .int .i64 j ∧ kv = .int .i64 ((k + offR f j : Nat) : Int) ∧ Hid (OwnR wr lo hi (.slice (some ⟨g, 0, none⟩) n cap) us n (mixR f k j)) ∧ Hid (Below lo w wr)) (fun _ iv _ => n - (intOf iv).toNat)
    case atStart => exact ⟨0, Nat.zero_le _, rfl, rfl, HV.out, Below.refl _ _⟩
    case round =>
      clear HV
      obtain ⟨j, hj, rfl, rfl, HO, HB⟩ := hrel
      by_cases hlt : j < n
      · have hcell := HO.out.row.cellAt j (by omega)
        have hat : ((List.range n).map us)[j]? = some (us j) := by simp [hlt]
        rw [hat] at hcell
        have hrow : OwnN wr lo (us j) (f j) := by have := HO.out.each j hlt; unfold mixR at this; rwa [if_neg (by omega)] at this
        have hof := HOf.out j hlt
        have hof' : k + offR f j + (f j).length ≤ 1048576 := by have e : offR f (j + 1) = offR f j + (f j).length := rfl; rw [e] at hof; omega
        have CM := Lib.hid (markInt64G lo (us j) (f j) (k + offR f j) wr (by omega) (by omega) hrow)
        have HW : Hid (∀ W', OwnN W' lo (us j) (markR f k j) → wr.grownBy W' (us j).ownBlock → OwnR W' lo hi (.slice (some ⟨g, 0, none⟩) n cap) us n (mixR f k (j + 1)) ∧ Below lo w W') := fun W' ho hg =>
          ⟨(HO.out.wrote hlt ho hg).congr fun i hi' => by
            unfold mixR
            by_cases e : i = j
            · subst e; rw [if_pos rfl, if_pos (by omega)]
            · rw [if_neg e]
              by_cases e2 : i < j
              · rw [if_pos e2, if_pos (by omega)]
              · rw [if_neg e2, if_neg (by omega)],
           HB.out.trans ⟨hg.os, hg.tape, hg.output, hg.size, fun q hq => ?_⟩⟩
        · obtain ⟨ax, nx, cx, ex⟩ : ∃ ao n cap, us j = .slice ao n cap := by
            rcases Joins.ownsRow_forms hrow with ⟨e, _⟩ | ⟨g, cap, e⟩
            · exact ⟨_, _, _, e⟩
            · exact ⟨_, _, _, e⟩
          rw [ex] at hcell CM HW
          have HM : Hid (((k + offR f (j + 1) : Nat) : Int) = ((k + offR f j + (f j).length : Nat) : Int)) := by show _ = _; rw [show k + offR f (j + 1) = k + offR f j + (f j).length from (Nat.add_assoc _ _ _).symm]
          have kl : (j : Int) < (n : Int) := by omega
          obtain ⟨q, hq⟩ : ∃ q, k + offR f j + (f j).length = q := ⟨_, rfl⟩
          rw [hq] at CM HM
          clear hat hrow hof hof' HO HB hq
          go_wp2_with fail
          refine CM.out.mono ?_
          rintro e w2 ⟨rfl, ho2, hg2⟩
          have H2 := HW.out w2 ho2 hg2
          have HO2 := Lib.hid H2.1
          have HB2 := Lib.hid H2.2
          clear ho2 hg2 H2 CM hcell
          go_wp2
          go_roundw
          case rel => exact ⟨j + 1, by omega, by go_num, by rw [HM.out], HO2, HB2⟩
          case measure => simp [intOf]; omega
        · exact hg.block q (by have := HB.out.size; omega) (fun e => by have := (hrow.lt q e.symm).1; omega)
      · obtain rfl : j = n := by omega
        have HO2 : Hid (OwnR wr lo hi (.slice (some ⟨g, 0, none⟩) j cap) us j (markR f k)) := HO.out.congr fun i hi' => by unfold mixR; rw [if_pos hi']
        clear HO
        go_wp2
        go_ret
        exact ⟨rfl, HO2.out, HB.out⟩

set_option maxHeartbeats 1000000 in
theorem heldInt64R (v : Value) (n : Nat) (f : Nat → List Int) (k : Nat) (w : World) (hN : n ≤ 1048576) (hT : k + offR f n ≤ 1048576) (hv : SlR w v n (markR f k)) :
    Calls Tryd.prog 29 #[v, .int .i64 k] w (fun e w' => e = .returned (.int .i64 ((k + offR f n : Nat) : Int)) ∧ Below w.heap.size w w') := by
  have HOf : Hid (∀ j, j < n → k + offR f (j + 1) ≤ 1048576) := fun j hj => by have := offR_le f (show j + 1 ≤ n by omega); omega
  rcases hv with ⟨ao, cap, rfl, rfl⟩ | ⟨b, off, cap, us, rfl, hpos, hb, hc⟩
  · clear HOf
    go_enter Tryd.func29, Tryd.ntmps29
    go_wp2
    refine wp_loop_rounds 1 ?_; rw [rounds_succ]
    go_wp2
    go_ret
    exact ⟨rfl, Below.refl _ _⟩
  · have HC := Lib.hid hc
    clear hc
    go_enter Tryd.func29, Tryd.ntmps29
    go_wp2
    go_loopw [1, 5] (fun kv iv wr => ∃ j : Nat, j ≤ n ∧ iv = .int .i64 j ∧ kv = .int .i64 ((k + offR f j : Nat) : Int) ∧ Hid (Below w.heap.size w wr)) (fun _ iv _ => n - (intOf iv).toNat)
    case atStart => exact ⟨0, Nat.zero_le _, rfl, rfl, Below.refl _ _⟩
    case round =>
      obtain ⟨j, hj, rfl, rfl, HB⟩ := hrel
      by_cases hlt : j < n
      · have hcell := cell_kept HB.out (HC.out j hlt).1
        have srow := (HC.out j hlt).2.below HB.out
        have hof := HOf.out j hlt
        have hof' : k + offR f j + (f j).length ≤ 1048576 := by have e : offR f (j + 1) = offR f j + (f j).length := rfl; rw [e] at hof; omega
        have CM := Lib.hid (heldInt64N (us j) (f j).length (k + offR f j) wr (by omega) (by omega) srow)
        obtain ⟨ax, cx, ex⟩ := srow.form
        obtain ⟨m, hm⟩ : ∃ m, (markR f k j).length = m := ⟨_, rfl⟩
        rw [hm] at ex
        rw [ex] at hcell CM
        have HM : Hid (((k + offR f (j + 1) : Nat) : Int) = ((k + offR f j + (f j).length : Nat) : Int)) := by show _ = _; rw [show k + offR f (j + 1) = k + offR f j + (f j).length from (Nat.add_assoc _ _ _).symm]
        have kl : (j : Int) < (n : Int) := by omega
        obtain ⟨q, hq⟩ : ∃ q, k + offR f j + (f j).length = q := ⟨_, rfl⟩
        rw [hq] at CM HM
        have kq : ¬ ((q : Nat) : Int) < 0 := by omega
        clear hof hof' srow ex hm hq
        go_wp2_with fail
        refine CM.out.mono ?_
        rintro e w2 ⟨rfl, hb2⟩
        have HB2 := Lib.hid (HB.out.trans (hb2.mono HB.out.size))
        clear hb2 CM hcell HB
        go_wp2
        go_roundw
        case rel => exact ⟨j + 1, by omega, by go_num, by rw [HM.out], HB2⟩
        case measure => simp [intOf]; omega
      · obtain rfl : j = n := by omega
        go_wp2
        go_ret
        exact ⟨rfl, HB.out⟩
end Go.Proofs.YtdeagfmldpociaaDoor

/- Contracts of single functions, and plain lemmas, on which the exact laws of this seat rest; each holds under the conditions that it states. -/
namespace Go.Proofs.YtdeagfmldpociaaDoor
set_option linter.unusedVariables false
set_option linter.unusedSimpArgs false
open Go.RowKit

theorem less_and (x m : Nat) (hx : x < 4294967296) (hm : m < 4294967296) : x &&& (4294967295 - m) = lessW x m := by
  apply Nat.eq_of_testBit_eq
  intro j
  have := Nat.testBit_two_pow_sub_succ (x := m) (n := 32) (by omega) j
  rw [show 2 ^ 32 - (m + 1) = 4294967295 - m from by omega] at this
  rw [lessW_bit, Nat.testBit_and, this]
  by_cases h : j < 32
  · simp [h]
  · rw [Nat.testBit_lt_two_pow (x := x) (Nat.lt_of_lt_of_le hx (by
      have : 2 ^ 32 ≤ 2 ^ j := Nat.pow_le_pow_right (by omega) (by omega)
      omega))]
    simp

/-- a list of rows of the call's own -/
def OwnL (w : World) (lo hi : Nat) (v : Value) (us : Nat → Value) (xss : List (List Int)) : Prop := OwnR w lo hi v us xss.length (fun i => xss.getD i [])
theorem OwnL.start (w : World) (lo hi : Nat) : OwnL w lo hi (.slice none 0 0) (fun _ => .slice none 0 0) [] := OwnR.nil _ _ _ _ _
theorem infoSl : (Tryd.prog.info? 59).map (fun i => (i.zero, i.size, i.bytes)) = some (some (.slice none 0 0), 1, 24) := by kernel_rfl
theorem OwnR.snoc {W w' : World} {lo n : Nat} {v v' : Value} {us : Nat → Value} {f : Nat → List Int} (h : OwnR W lo W.heap.size v us n f) (hlo : lo ≤ W.heap.size) (cs : Array Value) (x : List Int) (hx : cs.toList = numsV x) (hm : x.length ≤ maxLen) (o : Obj)
    (hown : w'.ownsRow lo 59 1 v' (n + 1) ((List.range n).map us ++ [.slice (some ⟨W.heap.size, 0, none⟩) x.length x.length])) (hg : ((W.alloc (.cells cs 2)).alloc o).grownBy w' v.ownBlock) :
    OwnR w' lo w'.heap.size v' (fun i => if i = n then .slice (some ⟨W.heap.size, 0, none⟩) x.length x.length else us i) (n + 1) (fun i => if i = n then x else f i) := by
  have hs : W.heap.size + 2 ≤ w'.heap.size := by have := hg.size; simp at this; omega
  have hcs : cs.size = x.length * 1 := by have := congrArg List.length hx; simpa [numsV] using this
  have old : ∀ i, i < n → OwnN w' lo (us i) (f i) := fun i hi => by
    have h1 := h.each i hi
    have h2 : ((W.alloc (.cells cs 2)).alloc o).ownsRow lo 2 1 (us i) (f i).length (numsV (f i)) := (World.ownsRow.alloc h1 _).alloc _
    exact own_keep h2 (fun k e => hg.block k (h2.lt k e).2 (fun e2 => own_two h.row h1 (by decide) k e2.symm e))
  have new : OwnN w' lo (.slice (some ⟨W.heap.size, 0, none⟩) x.length x.length) x := by
    have h1 := World.ownsRow_lit (base := lo) (e := 2) (size := 1) W cs x.length hlo hm hcs
    rw [hx] at h1
    have h2 := World.ownsRow.alloc h1 o
    exact own_keep h2 (fun k e => hg.block k (h2.lt k e).2 (fun e2 => by
      have a1 := (h.row.lt k e2.symm).2
      have a2 : W.heap.size = k := by simpa [Value.ownBlock] using e
      omega))
  refine ⟨?_, fun i hi => ?_, fun i hi k e => ?_, fun k e => (hown.lt k e).2, fun i j hi hj hne k e => ?_⟩
  · have : (List.range (n + 1)).map (fun i => if i = n then .slice (some ⟨W.heap.size, 0, none⟩) x.length x.length else us i) = (List.range n).map us ++ [.slice (some ⟨W.heap.size, 0, none⟩) x.length x.length] := by
      rw [List.range_succ, List.map_append]
      congr 1
      · refine List.map_congr_left fun i hi => ?_
        rw [List.mem_range] at hi
        rw [if_neg (by omega)]
      · simp
    rw [this]
    exact hown
  · by_cases e : i = n
    · subst e
      simpa using new
    · simpa [e] using old i (by omega)
  · by_cases e2 : i = n
    · subst e2
      have a2 : W.heap.size = k := by simpa [Value.ownBlock] using e
      omega
    · simp only [e2, if_false] at e
      have := h.up i (by omega) k e
      omega
  · by_cases ei : i = n
    · have ej : j ≠ n := fun e2 => hne (ei.trans e2.symm)
      simp only [ei, if_true] at e
      simp only [ej, if_false]
      have a2 : W.heap.size = k := by simpa [Value.ownBlock] using e
      intro e3
      have := h.up j (by omega) k e3
      omega
    · simp only [ei, if_false] at e
      by_cases ej : j = n
      · simp only [ej, if_true]
        have := h.up i (by omega) k e
        intro e3
        have a2 : W.heap.size = k := by simpa [Value.ownBlock] using e3
        omega
      · simp only [ej, if_false]
        exact h.apart i j (by omega) (by omega) hne k e
theorem OwnL.snoc {W w' : World} {lo : Nat} {v v' : Value} {us : Nat → Value} {xss : List (List Int)} (h : OwnL W lo W.heap.size v us xss) (hlo : lo ≤ W.heap.size) (cs : Array Value) (x : List Int) (hx : cs.toList = numsV x) (hm : x.length ≤ maxLen) (o : Obj)
    (hown : w'.ownsRow lo 59 1 v' (xss.length + 1) ((List.range xss.length).map us ++ [.slice (some ⟨W.heap.size, 0, none⟩) x.length x.length])) (hg : ((W.alloc (.cells cs 2)).alloc o).grownBy w' v.ownBlock) :
    ∃ us', OwnL w' lo w'.heap.size v' us' (xss ++ [x]) := by
  have := OwnR.snoc h hlo cs x hx hm o hown hg
  refine ⟨fun i => if i = xss.length then .slice (some ⟨W.heap.size, 0, none⟩) x.length x.length else us i, ?_⟩
  unfold OwnL
  rw [List.length_append]
  refine this.congr fun i hi => ?_
  simp only [List.getD_eq_getElem?_getD]
  by_cases e : i = xss.length
  · subst e; simp
  · rw [if_neg e, List.getElem?_append_left (by omega)]
theorem OwnL.below {W W' : World} {lo : Nat} {v : Value} {us : Nat → Value} {xss : List (List Int)} (h : OwnL W lo W.heap.size v us xss) (hb : Below W.heap.size W W') : OwnL W' lo W'.heap.size v us xss :=
  (OwnR.below h (Nat.le_refl _) hb).mono (Nat.le_refl _) hb.size

/-! ### the runs of all rows -/
def rowR (r : Nat → Bool) (y t : Nat) : List (List Int) := (rl r t).map fun q => [(y : Int), (q.1 : Int), (q.2 : Int)]
def runsL (R : Nat → Nat → Bool) : Nat → List (List Int)
  | 0 => []
  | y + 1 => runsL R y ++ rowR (R y) y 17
theorem rowR_len (r : Nat → Bool) (y t : Nat) : (rowR r y t).length ≤ t := by unfold rowR; rw [List.length_map]; exact rl_len r t
theorem runsL_len (R : Nat → Nat → Bool) : ∀ y, (runsL R y).length ≤ y * 17
  | 0 => Nat.le_refl _
  | y + 1 => by
    have h1 := runsL_len R y
    have h2 := rowR_len (R y) y 17
    show (runsL R y ++ _).length ≤ _
    rw [List.length_append]
    omega
end Go.Proofs.YtdeagfmldpociaaDoor
