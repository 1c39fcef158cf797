/- Contracts of single functions, and plain lemmas, on which the exact laws of this seat rest; each holds under the conditions that it states. -/
import Derived.Test.YthkmfiipmhlbjaaDoorGC
import Derived.Test.YthkmfiipmhlbjaaDoorMv
import Derived.Test.YthkmfiipmhlbjaaDoorR1
namespace Go.Proofs.YthkmfiipmhlbjaaDoor
set_option linter.unusedVariables false
set_option linter.unusedSimpArgs false
open Go.RowKit

/-! ### the least and the greatest number of a row -/
def mnK (ns : List Int) : Nat → Int
  | 0 => ns.getD 0 0
  | k + 1 => min (mnK ns k) (ns.getD k 0)
def mxK (ns : List Int) : Nat → Int
  | 0 => ns.getD 0 0
  | k + 1 => max (mxK ns k) (ns.getD k 0)
theorem mnK_ge (ns : List Int) (z : Int) : ∀ k, z ≤ mnK ns k ↔ z ≤ ns.getD 0 0 ∧ ∀ j, j < k → z ≤ ns.getD j 0
  | 0 => by simp [mnK]
  | k + 1 => by
    show z ≤ min (mnK ns k) (ns.getD k 0) ↔ _
    have ih := mnK_ge ns z k
    constructor
    · intro h
      have h1 : z ≤ mnK ns k := by omega
      have h2 : z ≤ ns.getD k 0 := by omega
      refine ⟨(ih.1 h1).1, fun j hj => ?_⟩
      by_cases e : j = k
      · rw [e]; exact h2
      · exact (ih.1 h1).2 j (by omega)
    · rintro ⟨h1, h2⟩
      have h3 := ih.2 ⟨h1, fun j hj => h2 j (by omega)⟩
      have h4 := h2 k (by omega)
      omega
theorem mxK_le (ns : List Int) (z : Int) : ∀ k, mxK ns k ≤ z ↔ ns.getD 0 0 ≤ z ∧ ∀ j, j < k → ns.getD j 0 ≤ z
  | 0 => by simp [mxK]
  | k + 1 => by
    show max (mxK ns k) (ns.getD k 0) ≤ z ↔ _
    have ih := mxK_le ns z k
    constructor
    · intro h
      have h1 : mxK ns k ≤ z := by omega
      have h2 : ns.getD k 0 ≤ z := by omega
      refine ⟨(ih.1 h1).1, fun j hj => ?_⟩
      by_cases e : j = k
      · rw [e]; exact h2
      · exact (ih.1 h1).2 j (by omega)
    · rintro ⟨h1, h2⟩
      have h3 := ih.2 ⟨h1, fun j hj => h2 j (by omega)⟩
      have h4 := h2 k (by omega)
      omega
theorem numsB_mm {ns : List Int} (m : Int) (h : 0 < ns.length) : numsB m ns = (decide (0 ≤ mnK ns ns.length) && decide (mxK ns ns.length ≤ m)) := by
  rw [Bool.eq_iff_iff, Bool.and_eq_true, decide_eq_true_eq, decide_eq_true_eq, mnK_ge, mxK_le]
  constructor
  · intro hh
    have key : ∀ j, j < ns.length → 0 ≤ ns.getD j 0 ∧ ns.getD j 0 ≤ m := fun j hj => by
      cases hb : inB (ns.getD j 0) 0 m with
      | false => rw [numsB_bad hj hb] at hh; cases hh
      | true => unfold inB at hb; simpa using hb
    exact ⟨⟨(key 0 h).1, fun j hj => (key j hj).1⟩, (key 0 h).2, fun j hj => (key j hj).2⟩
  · rintro ⟨⟨_, h1⟩, _, h2⟩
    exact numsB_good fun j hj => inB_yes (h1 j hj) (h2 j hj)

set_option maxHeartbeats 1000000 in
theorem sMin_any (b off n cap : Nat) (ns : List Int) (w : World) (hn : 0 < n) (hN : n ≤ maxLen) (hb : b < w.heap.size) (hc : ∀ j, j < n → w.cell? ⟨b, off + j, none⟩ = some (.int .i64 (ns.getD j 0))) :
    Calls Tryd.prog 137 #[.slice (some ⟨b, off, none⟩) n cap] w fun e w' => e = .returned (.int .i64 (mnK ns n)) ∧ w = w' := by
  unfold maxLen at hN
  have HC := Lib.hid hc
  have h0 := hc 0 hn
  rw [Nat.add_zero] at h0
  have HM : Hid (mnK ns 1 = ns.getD 0 0) := by show min (ns.getD 0 0) (ns.getD 0 0) = _; omega
  have HS : Hid (∀ k, mnK ns (k + 1) = min (mnK ns k) (ns.getD k 0)) := fun _ => rfl
  obtain ⟨x0, hx0⟩ : ∃ z, ns.getD 0 0 = z := ⟨_, rfl⟩
  rw [hx0] at h0 HM
  have npos : (0 : Int) < (n : Int) := by omega
  clear hc hx0
  go_enter Tryd.func137, Tryd.ntmps137
  go_wp2
  go_loopw [3, 4] (fun mv iv wr => ∃ (m : Int) (i : Nat), mv = .int .i64 m ∧ 1 ≤ i ∧ i ≤ n ∧ iv = .int .i64 i ∧ Hid (m = mnK ns i) ∧ w = wr) (fun _ iv _ => n - (intOf iv).toNat)
  case atStart => exact ⟨x0, 1, rfl, Nat.le_refl _, by omega, rfl, HM.out.symm, rfl⟩
  case round =>
    obtain ⟨m, i, rfl, h1, hi, rfl, HM2, rfl⟩ := hrel
    by_cases hlt : i < n
    · have hci := HC.out i hlt
      have HSi := Lib.hid (HS.out i)
      rw [← HM2.out] at HSi
      obtain ⟨z, hz⟩ : ∃ z, ns.getD i 0 = z := ⟨_, rfl⟩
      rw [hz] at hci HSi
      have il : (i : Int) < (n : Int) := by omega
      have i0 : (0 : Int) ≤ (i : Int) := by omega
      clear hz
      go_wp2
      go_roundw
      case rel => exact ⟨_, i + 1, rfl, by omega, by omega, by go_num, HSi.out.symm, (by trivial)⟩
      case measure => simp [intOf]; omega
    · obtain rfl : i = n := by omega
      go_wp2
      go_ret
      exact ⟨ret_int HM2.out, rfl⟩
set_option maxHeartbeats 1000000 in
theorem sMax_any (b off n cap : Nat) (ns : List Int) (w : World) (hn : 0 < n) (hN : n ≤ maxLen) (hb : b < w.heap.size) (hc : ∀ j, j < n → w.cell? ⟨b, off + j, none⟩ = some (.int .i64 (ns.getD j 0))) :
    Calls Tryd.prog 138 #[.slice (some ⟨b, off, none⟩) n cap] w fun e w' => e = .returned (.int .i64 (mxK ns n)) ∧ w = w' := by
  unfold maxLen at hN
  have HC := Lib.hid hc
  have h0 := hc 0 hn
  rw [Nat.add_zero] at h0
  have HM : Hid (mxK ns 1 = ns.getD 0 0) := by show max (ns.getD 0 0) (ns.getD 0 0) = _; omega
  have HS : Hid (∀ k, mxK ns (k + 1) = max (mxK ns k) (ns.getD k 0)) := fun _ => rfl
  obtain ⟨x0, hx0⟩ : ∃ z, ns.getD 0 0 = z := ⟨_, rfl⟩
  rw [hx0] at h0 HM
  have npos : (0 : Int) < (n : Int) := by omega
  clear hc hx0
  go_enter Tryd.func138, Tryd.ntmps138
  go_wp2
  go_loopw [3, 4] (fun mv iv wr => ∃ (m : Int) (i : Nat), mv = .int .i64 m ∧ 1 ≤ i ∧ i ≤ n ∧ iv = .int .i64 i ∧ Hid (m = mxK ns i) ∧ w = wr) (fun _ iv _ => n - (intOf iv).toNat)
  case atStart => exact ⟨x0, 1, rfl, Nat.le_refl _, by omega, rfl, HM.out.symm, rfl⟩
  case round =>
    obtain ⟨m, i, rfl, h1, hi, rfl, HM2, rfl⟩ := hrel
    by_cases hlt : i < n
    · have hci := HC.out i hlt
      have HSi := Lib.hid (HS.out i)
      rw [← HM2.out] at HSi
      obtain ⟨z, hz⟩ : ∃ z, ns.getD i 0 = z := ⟨_, rfl⟩
      rw [hz] at hci HSi
      have il : (i : Int) < (n : Int) := by omega
      have i0 : (0 : Int) ≤ (i : Int) := by omega
      clear hz
      go_wp2
      go_roundw
      case rel => exact ⟨_, i + 1, rfl, by omega, by omega, by go_num, HSi.out.symm, (by trivial)⟩
      case measure => simp [intOf]; omega
    · obtain rfl : i = n := by omega
      go_wp2
      go_ret
      exact ⟨ret_int HM2.out, rfl⟩

set_option maxHeartbeats 1000000 in
theorem l07Is_any (pb : Nat) (v : Value) (gs : List (List Int)) (w : World) (hp : w.cell? ⟨pb, 0, none⟩ = some v) (hN : gs.length ≤ 1048576) (hf : ∀ i, i < gs.length → (rowF gs i).length ≤ 1048576) (hv : SlG w v gs) :
    Calls Tryd.prog 40 #[.pointer (some ⟨pb, 0, none⟩)] w (SaysB (vG 99 gs) w) := by
  have C := Lib.hid (l07Table_any v gs 99 w hN hf hv)
  have lp := blk_lt hp
  clear hf hv
  go_enter Tryd.func40, Tryd.ntmps40
  go_wp2_with fail
  refine C.out.mono ?_
  rintro e w' ⟨rfl, hb⟩
  have HB := Lib.hid hb
  clear hb
  go_wp2
  go_ret
  exact ⟨rfl, HB.out⟩
theorem spec_ValidGrey (v : Value) (gs : List (List Int)) (w : World) (hN : gs.length ≤ 1048576) (hf : ∀ i, i < gs.length → (rowF gs i).length ≤ 1048576) (hv : SlG w v gs) :
    Calls Tryd.prog 12 #[.agg #[v]] w (SaysB (vG 99 gs) w) := by
  have hb0 := Joins.below_alloc1 w (.cells #[v] 27)
  have C := Lib.hid (l07Is_any w.heap.size v gs (w.alloc (.cells #[v] 27)) (cell_of_one (heap_alloc_last w _)) hN hf (hv.below hb0))
  clear hf hv hb0
  go_enter Tryd.func12, Tryd.ntmps12
  go_wp2_with fail
  refine C.out.mono ?_
  rintro e w' ⟨rfl, hb⟩
  have HB := Lib.hid ((Joins.below_alloc1 w (.cells #[v] 27)).trans (hb.mono (by simp)))
  clear hb
  go_wp2
  go_ret
  exact ⟨rfl, HB.out⟩
end Go.Proofs.YthkmfiipmhlbjaaDoor
