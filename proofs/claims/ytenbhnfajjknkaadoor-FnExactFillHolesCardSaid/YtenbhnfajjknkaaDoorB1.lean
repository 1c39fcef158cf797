/- Contracts of single functions, and plain lemmas, on which the exact laws of this seat rest; each holds under the conditions that it states. -/
import Derived.Test.YtenbhnfajjknkaaDoorAn
import Derived.Test.YtenbhnfajjknkaaDoorSp
import Derived.Test.YtenbhnfajjknkaaDoorPb
namespace Go.Proofs.YtenbhnfajjknkaaDoor
set_option linter.unusedVariables false
set_option linter.unusedSimpArgs false
open Go.RowKit

/-! ### an element that fits -/
def fitP (ss : List ByteArray) (xs : List (Int × Int)) (X Y : Int) (i : Nat) : Bool := pixI ss (X + (xs.getD i (0, 0)).1) (Y + (xs.getD i (0, 0)).2)
def fitB (ss : List ByteArray) (xs : List (Int × Int)) (X Y : Int) : Bool := (List.range xs.length).all (fitP ss xs X Y)
theorem fitB_bad {ss : List ByteArray} {xs : List (Int × Int)} {X Y : Int} {i : Nat} (hi : i < xs.length) (h : fitP ss xs X Y i = false) : fitB ss xs X Y = false := by
  unfold fitB
  rw [List.all_eq_false]
  exact ⟨i, List.mem_range.2 hi, by rw [h]; simp⟩
theorem fitB_good {ss : List ByteArray} {xs : List (Int × Int)} {X Y : Int} (h : ∀ i, i < xs.length → fitP ss xs X Y i = true) : fitB ss xs X Y = true :=
  List.all_eq_true.2 (fun i hi => h i (List.mem_range.1 hi))
theorem elB_range {xs : List (Int × Int)} (h : elB xs = true) (i : Nat) (hi : i < xs.length) : (-4 ≤ (xs.getD i (0, 0)).1 ∧ (xs.getD i (0, 0)).1 ≤ 4) ∧ (-4 ≤ (xs.getD i (0, 0)).2 ∧ (xs.getD i (0, 0)).2 ≤ 4) := by
  unfold elB at h
  rw [Bool.and_eq_true] at h
  have := List.all_eq_true.1 h.1 i (List.mem_range.2 hi)
  unfold stepOk at this
  rw [Bool.and_eq_true] at this
  exact (okO_iff _).1 this.1

set_option maxHeartbeats 2000000 in
set_option maxRecDepth 100000 in
theorem l03Fits_any (pp pe : Nat) (ss : List ByteArray) (v : Value) (xs : List (Int × Int)) (X Y : Int) (w : World) (hp : PicAt w pp 0 ss) (he : w.heap[pe]? = some (.cells #[v] 36 (0, 0))) (hv : SlS w v xs) (hN : xs.length ≤ 1048576) (hok : elB xs = true)
    (hX : -16 ≤ X ∧ X ≤ 32) (hY : -16 ≤ Y ∧ Y ≤ 32) : Calls Tryd.prog 58 #[.pointer (some ⟨pp, 0, none⟩), .pointer (some ⟨pe, 0, none⟩), .int .i64 X, .int .i64 Y] w (SaysB (fitB ss xs X Y) w) := by
  have hc0 := cell_of_one he
  have hlp := (Array.getElem?_eq_some_iff.1 he).1
  have HR := Lib.hid (elB_range hok)
  have HBad := Lib.hid (fun i => @fitB_bad ss xs X Y i)
  have HGood := Lib.hid (@fitB_good ss xs X Y)
  have HFi : Hid (∀ i, fitP ss xs X Y i = pixI ss (X + (xs.getD i (0, 0)).1) (Y + (xs.getD i (0, 0)).2)) := fun _ => rfl
  have HP := Lib.hid hp
  obtain ⟨ao, cap, rfl, hf⟩ := sl_form hv
  have CB : Hid (∀ x y W, PicAt W pp 0 ss → Calls Tryd.prog 59 #[.pointer (some ⟨pp, 0, none⟩), .int .i64 x, .int .i64 y] W fun e w' => e = .returned (.bool (pixI ss x y)) ∧ W = w') := fun x y W h => l01Black_any pp 0 ss x y W h
  obtain ⟨n, hn⟩ : ∃ n, xs.length = n := ⟨_, rfl⟩
  rw [hn] at HR HBad HGood hf hN hc0
  obtain ⟨r, hr⟩ : ∃ r, fitB ss xs X Y = r := ⟨_, rfl⟩
  rw [hr] at HBad HGood
  rw [hr]
  have hsp : Hid (0 < n → ∃ b, ao = some ⟨b, 0, none⟩ ∧ Spots w b xs) := hf
  have Hn := Lib.hid hn
  clear hp he hv hok hf hn hr
  go_enter Tryd.func58, Tryd.ntmps58
  go_wp2
  go_loopw [9] (fun iv wr => ∃ i : Nat, i ≤ n ∧ iv = .int .i64 i ∧ Hid (∀ j, j < i → fitP ss xs X Y j = true) ∧ Hid (Below w.heap.size w wr)) (fun iv _ => n - (intOf iv).toNat)
  case atStart => exact ⟨0, Nat.zero_le _, rfl, fun j h => absurd h (Nat.not_lt_zero j), Below.refl _ _⟩
  case round =>
    obtain ⟨i, hi, rfl, HJ, HB⟩ := hrel
    have hs := HB.out.size
    have p0 := cell_kept HB.out hc0
    have lp : pe < wr.heap.size := by omega
    by_cases hlt : i < n
    · have klt : (i : Int) < (n : Int) := by omega
      obtain ⟨b, rfl, hbl, hcs⟩ := hsp.out (by omega)
      have c0 := cell_kept HB.out (hcs i (by rw [Hn.out]; exact hlt)).1
      have c1 := cell_kept HB.out (hcs i (by rw [Hn.out]; exact hlt)).2
      have lb : b < wr.heap.size := by omega
      obtain ⟨⟨r1, r2⟩, r3, r4⟩ := HR.out i hlt
      have hfi := HFi.out i
      have hbd := HBad.out i hlt
      have HPw : Hid (∀ k, PicAt (wr.drewN k) pp 0 ss) := fun k => HP.out.below (HB.out.trans (Joins.below_draws w.heap.size _ _))
      have HBd : ∀ m, Hid (Below w.heap.size w (wr.drewN m)) := fun m => HB.out.trans (Joins.below_draws w.heap.size _ _)
      have HJs : Hid (fitP ss xs X Y i = true → ∀ j, j < i + 1 → fitP ss xs X Y j = true) := fun h j hj => by
        by_cases e : j = i
        · rw [e]; exact h
        · exact HJ.out j (by omega)
      obtain ⟨q, hq⟩ : ∃ q, fitP ss xs X Y i = q := ⟨_, rfl⟩
      rw [hq] at hfi hbd HJs
      obtain ⟨x, hx⟩ : ∃ x, (xs.getD i (0, 0)).1 = x := ⟨_, rfl⟩
      obtain ⟨y, hy⟩ : ∃ y, (xs.getD i (0, 0)).2 = y := ⟨_, rfl⟩
      rw [hx] at c0 hfi r1 r2
      rw [hy] at c1 hfi r3 r4
      have CBi := Lib.hid (CB.out (X + x) (Y + y))
      rw [← hfi] at CBi
      have HBD := Lib.hid hbd
      have e1 : IntKind.i64.wrap (X + x) = X + x := IntWalk.i64_in _ (by omega)
      have e2 : IntKind.i64.wrap (Y + y) = Y + y := IntWalk.i64_in _ (by omega)
      clear hx hy hq hfi hbd hcs HB
      cases q with
      | true =>
        have HN := Lib.hid (HJs.out rfl)
        go_wp2_with fail
        go_quiet ((go_at_call 59; exact Calls.quiet_of_same ((CBi.out _ (HPw.out _)).mono fun e w' ⟨he, hw⟩ => ⟨he, hw.symm⟩)))
        clear e1 e2
        go_wp2
        go_roundw
        case rel => exact ⟨i + 1, by omega, by go_num, HN.out, (HBd _).out⟩
        case measure => simp [intOf]; omega
      | false =>
        have HRes := Lib.hid (HBD.out rfl)
        go_wp2_with fail
        go_quiet ((go_at_call 59; exact Calls.quiet_of_same ((CBi.out _ (HPw.out _)).mono fun e w' ⟨he, hw⟩ => ⟨he, hw.symm⟩)))
        clear e1 e2
        go_wp2
        go_ret
        exact ⟨ret_bool HRes.out.symm, (HBd _).out⟩
    · obtain rfl : i = n := by omega
      have HRes := Lib.hid (HGood.out HJ.out)
      go_wp2
      go_ret
      exact ⟨ret_bool HRes.out.symm, HB.out⟩
end Go.Proofs.YtenbhnfajjknkaaDoor
