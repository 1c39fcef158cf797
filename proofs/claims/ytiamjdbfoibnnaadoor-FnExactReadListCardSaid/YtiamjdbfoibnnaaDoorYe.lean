/- Contracts of single functions, and plain lemmas, on which the exact laws of this seat rest; each holds under the conditions that it states. -/
import Derived.Test.YtiamjdbfoibnnaaDoorYd
namespace Go.Proofs.YtiamjdbfoibnnaaDoor
set_option linter.unusedVariables false
set_option linter.unusedSimpArgs false
open Go.RowKit

/-! ### marks -/
/-- the numbers from k on -/
def marks (k n : Nat) : List Int := (List.range n).map fun i => ((k + i : Nat) : Int)
theorem marks_len (k n : Nat) : (marks k n).length = n := by simp [marks]
theorem marks_at (k n j : Nat) (h : j < n) : (marks k n).getD j 0 = ((k + j : Nat) : Int) := by
  unfold marks
  rw [List.getD_eq_getElem?_getD, List.getElem?_map, List.getElem?_range h]
  rfl
/-- the first j are marked -/
def half (k : Nat) (ns : List Int) (j : Nat) : List Value := intsV (marks k j) ++ (intsV ns).drop j
theorem half_zero (k : Nat) (ns : List Int) : half k ns 0 = intsV ns := by simp [half, marks, intsV]
theorem half_full (k : Nat) (ns : List Int) : half k ns ns.length = intsV (marks k ns.length) := by
  unfold half
  rw [List.drop_eq_nil_of_le (by simp [intsV]), List.append_nil]
theorem half_at (k : Nat) (ns : List Int) (j : Nat) (h : j < ns.length) : (half k ns j)[j]? = some (.int .i64 (ns.getD j 0)) := by
  unfold half
  rw [List.getElem?_append_right (by simp [intsV, marks]), List.getElem?_drop]
  simp [intsV, marks, h]
theorem half_set (k : Nat) (ns : List Int) (j : Nat) (h : j < ns.length) : (half k ns j).set j (.int .i64 ((k + j : Nat) : Int)) = half k ns (j + 1) := by
  have hl : (intsV ns).length = ns.length := by simp [intsV]
  unfold half
  rw [List.drop_eq_getElem_cons (i := j) (by rw [hl]; exact h), List.set_append, if_neg (by simp [intsV, marks])]
  have e : j - (intsV (marks k j)).length = 0 := by simp [intsV, marks]
  rw [e, List.set_cons_zero]
  have e2 : intsV (marks k (j + 1)) = intsV (marks k j) ++ [.int .i64 ((k + j : Nat) : Int)] := by
    simp [intsV, marks, List.range_succ]
  rw [e2]
  simp

set_option maxHeartbeats 1000000 in
theorem markInt64S_any (base : Nat) (v : Value) (ns : List Int) (k : Nat) (w : World) (hN : ns.length ≤ 1048576) (hk : k ≤ 1048576) (hv : OwnI w base v ns) :
    Calls Tryd.prog 17 #[v, .int .i64 k] w (fun e w' => e = .returned (.int .i64 ((k + ns.length : Nat) : Int)) ∧ OwnI w' base v (marks k ns.length) ∧ Below base w w') := by
  rcases Joins.ownsRow_forms hv with ⟨rfl, h0⟩ | ⟨g, cap, rfl⟩
  · obtain rfl := List.length_eq_zero_iff.1 h0
    clear hv
    go_enter Tryd.func17, Tryd.ntmps17
    go_wp2
    refine wp_loop_rounds 1 ?_; rw [rounds_succ]
    go_wp2
    go_ret
    exact ⟨rfl, OwnI.nil _ _, Below.refl _ _⟩
  · have HH0 := Lib.hid (half_zero k ns)
    have HHf := Lib.hid (half_full k ns)
    have HAt := Lib.hid (half_at k ns)
    have HSet := Lib.hid (half_set k ns)
    have hgb : base ≤ g := (hv.lt g rfl).1
    unfold OwnI at hv ⊢
    rw [marks_len]
    obtain ⟨n, hn⟩ : ∃ n, ns.length = n := ⟨_, rfl⟩
    rw [hn] at HHf HAt HSet hv hN ⊢
    rw [← HH0.out] at hv
    have HV := Lib.hid hv
    clear hv hn
    go_enter Tryd.func17, Tryd.ntmps17
    go_wp2
    go_loopw [1, 5] (fun kv iv wr => ∃ j : Nat, j ≤ n ∧ iv = .int .i64 j ∧ kv = .int .i64 ((k + j : Nat) : Int) ∧ wr.ownsRow base 2 1 (.slice (some ⟨g, 0, none⟩) n cap) n (half k ns j) ∧ Below base w wr) (fun _ iv _ => n - (intOf iv).toNat)
    case atStart => exact ⟨0, Nat.zero_le _, rfl, rfl, HV.out, Below.refl _ _⟩
    case round =>
      clear HV
      obtain ⟨j, hj, rfl, rfl, hown, hbel⟩ := hrel
      by_cases hlt : j < n
      · have hfz := hown.frozenAt j
        have hold := (hown.cellAt j (by omega)).trans (HAt.out j hlt)
        have hst := (hown.stored j (.int .i64 ((k + j : Nat) : Int))).1
        rw [HSet.out j hlt] at hst
        have HS := Lib.hid hst
        have HB := Lib.hid hbel
        have kl : (j : Int) < (n : Int) := by omega
        have kw : wrap64 (((k + j : Nat) : Int) + 1) = ((k + j : Nat) : Int) + 1 := IntWalk.wrap64_in _ (by omega)
        obtain ⟨z, hz⟩ : ∃ z : Int, ((k + j : Nat) : Int) = z := ⟨_, rfl⟩
        have HZ : Hid (((k + (j + 1) : Nat) : Int) = z + 1) := by show _ = _; omega
        have hzb : -9223372036854775808 ≤ z ∧ z ≤ 9223372036854775806 := by omega
        rw [hz] at kw HS ⊢
        clear hst hown hbel hz
        go_wp2
        go_roundw
        case rel => exact ⟨j + 1, by omega, by go_num, by rw [HZ.out], HS.out, HB.out.setCell hgb _⟩
        case measure => simp [intOf]; omega
      · obtain rfl : j = n := by omega
        rw [HHf.out] at hown
        have HO := Lib.hid hown
        have HB := Lib.hid hbel
        clear hown hbel
        go_wp2
        go_ret
        exact ⟨rfl, HO.out, HB.out⟩

set_option maxHeartbeats 1000000 in
theorem heldInt64S_any (v : Value) (n k : Nat) (w : World) (hN : n ≤ 1048576) (hk : k ≤ 1048576) (hv : SlI w v (marks k n)) :
    Calls Tryd.prog 18 #[v, .int .i64 k] w (fun e w' => e = .returned (.int .i64 ((k + n : Nat) : Int)) ∧ Below w.heap.size w w') := by
  rcases hv with ⟨ao, cap, rfl, h0⟩ | ⟨b, off, cap, rfl, hpos, hb, hc⟩
  · have h1 := congrArg List.length h0
    rw [marks_len] at h1
    obtain rfl : n = 0 := h1
    clear h0
    go_enter Tryd.func18, Tryd.ntmps18
    go_wp2
    refine wp_loop_rounds 1 ?_; rw [rounds_succ]
    go_wp2
    go_ret
    exact ⟨rfl, Below.refl _ _⟩
  · have HAt := Lib.hid (marks_at k n)
    rw [marks_len] at hc hpos ⊢
    have HC := Lib.hid hc
    clear hc
    go_enter Tryd.func18, Tryd.ntmps18
    go_wp2
    go_loopw [1, 5] (fun kv iv wr => ∃ j : Nat, j ≤ n ∧ iv = .int .i64 j ∧ kv = .int .i64 ((k + j : Nat) : Int) ∧ Below w.heap.size w wr) (fun _ iv _ => n - (intOf iv).toNat)
    case atStart => exact ⟨0, Nat.zero_le _, rfl, rfl, Below.refl _ _⟩
    case round =>
      obtain ⟨j, hj, rfl, rfl, hbel⟩ := hrel
      by_cases hlt : j < n
      · have hcell := (hbel.cell (p := ⟨b, off + j, none⟩) hb).trans (HC.out j hlt)
        rw [HAt.out j hlt] at hcell
        have HB := Lib.hid hbel
        have kl : (j : Int) < (n : Int) := by omega
        have kw : wrap64 (((k + j : Nat) : Int) + 1) = ((k + j : Nat) : Int) + 1 := IntWalk.wrap64_in _ (by omega)
        obtain ⟨z, hz⟩ : ∃ z : Int, ((k + j : Nat) : Int) = z := ⟨_, rfl⟩
        have HZ : Hid (((k + (j + 1) : Nat) : Int) = z + 1) := by show _ = _; omega
        have hzb : -9223372036854775808 ≤ z ∧ z ≤ 9223372036854775806 := by omega
        rw [hz] at kw hcell ⊢
        clear hbel hz
        go_wp2
        go_roundw
        case rel => exact ⟨j + 1, by omega, by go_num, by rw [HZ.out], HB.out⟩
        case measure => simp [intOf]; omega
      · obtain rfl : j = n := by omega
        have HB := Lib.hid hbel
        clear hbel
        go_wp2
        go_ret
        exact ⟨rfl, HB.out⟩
end Go.Proofs.YtiamjdbfoibnnaaDoor
