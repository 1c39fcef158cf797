/- Contracts of single functions, and plain lemmas, on which the exact laws of this seat rest; each holds under the conditions that it states. -/
import Derived.Test.YthoffbibaimjlaaDoorQa
import Derived.Test.YthoffbibaimjlaaDoorRc
namespace Go.Proofs.YthoffbibaimjlaaDoor
set_option linter.unusedVariables false
set_option linter.unusedSimpArgs false
open Go.RowKit

def spotC (xs : List (Int × Int)) (j : Nat) : Int := if j % 2 = 0 then (xs.getD (j / 2) (0, 0)).1 else (xs.getD (j / 2) (0, 0)).2
/-- the cells of a row of spots -/
def flat2 (xs : List (Int × Int)) : List Value := (List.range (xs.length * 2)).map fun j => Value.int .i64 (spotC xs j)
theorem flat2_len (xs : List (Int × Int)) : (flat2 xs).length = xs.length * 2 := by simp [flat2]
theorem flat2_at (xs : List (Int × Int)) (j : Nat) (h : j < xs.length * 2) : (flat2 xs)[j]? = some (.int .i64 (spotC xs j)) := by simp [flat2, h]
theorem spotC_x (xs : List (Int × Int)) (i : Nat) : spotC xs (i * 2) = (xs.getD i (0, 0)).1 := by
  unfold spotC; rw [if_pos (by omega), show i * 2 / 2 = i from by omega]
theorem spotC_y (xs : List (Int × Int)) (i : Nat) : spotC xs (i * 2 + 1) = (xs.getD i (0, 0)).2 := by
  unfold spotC; rw [if_neg (by omega), show (i * 2 + 1) / 2 = i from by omega]
/-- a slice of spots of the call's own -/
def OwnS (w : World) (base : Nat) (v : Value) (xs : List (Int × Int)) : Prop := w.ownsRow base 56 2 v xs.length (flat2 xs)
theorem OwnS.sl {w : World} {base : Nat} {v : Value} {xs : List (Int × Int)} (h : OwnS w base v xs) : SlS w v xs := by
  rcases Joins.ownsRow_forms h with ⟨rfl, h0⟩ | ⟨g, cap, rfl⟩
  · exact Or.inl ⟨none, 0, rfl, List.length_eq_zero_iff.1 h0⟩
  · by_cases h0 : xs.length = 0
    · have := List.length_eq_zero_iff.1 h0
      subst this
      exact Or.inl ⟨_, _, rfl, rfl⟩
    · refine Or.inr ⟨g, cap, rfl, by omega, (h.lt g rfl).2, fun i hi => ⟨?_, ?_⟩⟩
      · rw [h.cellAt (i * 2) (by omega), flat2_at xs _ (by omega), spotC_x]
      · rw [h.cellAt (i * 2 + 1) (by omega), flat2_at xs _ (by omega), spotC_y]

theorem OwnS.spots {w : World} {base g n cap : Nat} {xs : List (Int × Int)} (h : OwnS w base (.slice (some ⟨g, 0, none⟩) n cap) xs) : Spots w g xs := by
  refine ⟨(h.lt g rfl).2, fun i hi => ⟨?_, ?_⟩⟩
  · rcases Joins.ownsRow_forms h with ⟨h1, _⟩ | ⟨g', cap', h1⟩
    · cases h1
    · cases h1
      rw [h.cellAt (i * 2) (by omega), flat2_at xs _ (by omega), spotC_x]
  · rcases Joins.ownsRow_forms h with ⟨h1, _⟩ | ⟨g', cap', h1⟩
    · cases h1
    · cases h1
      rw [h.cellAt (i * 2 + 1) (by omega), flat2_at xs _ (by omega), spotC_y]

def marksS (k n : Nat) : List (Int × Int) := (List.range n).map fun i => (((k + i * 2 : Nat) : Int), ((k + i * 2 + 1 : Nat) : Int))
theorem marksS_len (k n : Nat) : (marksS k n).length = n := by simp [marksS]
theorem marksS_at (k n i : Nat) (h : i < n) : (marksS k n).getD i (0, 0) = (((k + i * 2 : Nat) : Int), ((k + i * 2 + 1 : Nat) : Int)) := by simp [marksS, h]
/-- the first c cells are marked -/
def partS (xs : List (Int × Int)) (k n c : Nat) : List Value := (List.range (n * 2)).map fun j => if j < c then Value.int .i64 ((k + j : Nat) : Int) else Value.int .i64 (spotC xs j)
theorem partS_zero (xs : List (Int × Int)) (k : Nat) : partS xs k xs.length 0 = flat2 xs := by
  unfold partS flat2
  simp only [Nat.not_lt_zero, if_false]
theorem partS_full (xs : List (Int × Int)) (k n : Nat) : partS xs k n (n * 2) = flat2 (marksS k n) := by
  unfold partS flat2
  rw [marksS_len]
  apply List.map_congr_left
  intro j hj
  simp only [List.mem_range] at hj
  rw [if_pos hj]
  rcases Nat.mod_two_eq_zero_or_one j with h | h
  · have e : j = j / 2 * 2 := by omega
    rw [e, spotC_x, marksS_at _ _ _ (by omega)]
  · have e : j = j / 2 * 2 + 1 := by omega
    rw [e, spotC_y, marksS_at _ _ _ (by omega)]
    rfl
theorem partS_set (xs : List (Int × Int)) (k n c : Nat) : (partS xs k n c).set c (.int .i64 ((k + c : Nat) : Int)) = partS xs k n (c + 1) := by
  unfold partS
  rw [set_map_range]
  apply List.map_congr_left
  intro j hj
  by_cases h1 : j = c
  · subst h1; simp
  · by_cases h2 : j < c
    · simp [h1, h2, show j < c + 1 from by omega]
    · simp [h1, h2, show ¬ j < c + 1 from by omega]
theorem partS_at (xs : List (Int × Int)) (k n c : Nat) (h : c < n * 2) : (partS xs k n c)[c]? = some (.int .i64 (spotC xs c)) := by
  unfold partS
  simp [h]

def MarkedS (w : World) (base : Nat) (v : Value) (k n : Nat) (e : Ending) (w' : World) : Prop := e = .returned (.int .i64 ((k + n * 2 : Nat) : Int)) ∧ OwnS w' base v (marksS k n) ∧ w.grownBy w' v.ownBlock

set_option maxHeartbeats 1000000 in
set_option maxRecDepth 100000 in
theorem markSpotS_any (v : Value) (xs : List (Int × Int)) (base k : Nat) (w : World) (h1 : 1 ≤ k) (h2 : k + xs.length * 2 ≤ 9000000) (hv : OwnS w base v xs) :
    Calls Tryd.prog 14 #[v, .int .i64 k] w (MarkedS w base v k xs.length) := by
  rcases Joins.ownsRow_forms hv with ⟨rfl, h0⟩ | ⟨g, cap, rfl⟩
  · have h0' := List.length_eq_zero_iff.1 h0
    subst h0'
    go_enter Tryd.func14, Tryd.ntmps14
    go_wp2
    refine wp_loop_rounds 1 ?_; rw [rounds_succ]
    go_wp2
    go_ret
    exact ⟨rfl, hv, grown_refl _ _⟩
  · obtain ⟨n, hn⟩ : ∃ n, xs.length = n := ⟨_, rfl⟩
    have hv' : w.ownsRow base 56 2 (.slice (some ⟨g, 0, none⟩) n cap) n (partS xs k n 0) := by
      rw [← hn, partS_zero]; exact hv
    rw [hn] at h2 ⊢
    have hg := (hv.lt g rfl).2
    clear hv hn
    go_enter Tryd.func14, Tryd.ntmps14
    go_wp2
    go_loopw [1, 5] (fun kv iv wr => ∃ i : Nat, i ≤ n ∧ kv = .int .i64 ((k + i * 2 : Nat) : Int) ∧ iv = .int .i64 i ∧ wr.ownsRow base 56 2 (.slice (some ⟨g, 0, none⟩) n cap) n (partS xs k n (i * 2)) ∧ w.grownBy wr (some g)) (fun _ iv _ => n - (intOf iv).toNat)
    case atStart => exact ⟨0, Nat.zero_le _, by simp, rfl, hv', grown_refl _ _⟩
    case round =>
      obtain ⟨i, hi, rfl, rfl, hown, hgr⟩ := hrel
      by_cases hlt : i < n
      · have ki : (i : Int) < (n : Int) := by omega
        have hfz := hown.frozenAt (i * 2)
        have hold := (hown.cellAt (i * 2) (by omega)).trans (partS_at xs k n (i * 2) (by omega))
        have hst := (hown.stored (i * 2) (.int .i64 ((k + i * 2 : Nat) : Int))).1
        rw [partS_set] at hst
        have hfz2 := hst.frozenAt (i * 2 + 1)
        have hold2 := (hst.cellAt (i * 2 + 1) (by omega)).trans (partS_at xs k n (i * 2 + 1) (by omega))
        have hst2 := (hst.stored (i * 2 + 1) (.int .i64 ((k + (i * 2 + 1) : Nat) : Int))).1
        rw [partS_set] at hst2
        have HS := Lib.hid hst2
        have HG1 := Lib.hid (grown_setCell (o := i * 2 + 1) (grown_setCell (o := i * 2) hgr (.int .i64 ((k + i * 2 : Nat) : Int))) (.int .i64 ((k + (i * 2 + 1) : Nat) : Int)))
        obtain ⟨q, hq⟩ : ∃ q, k + i * 2 = q := ⟨_, rfl⟩
        have hq2 : k + (i * 2 + 1) = q + 1 := by omega
        rw [hq] at HS HG1 hfz2 hold2 ⊢
        rw [hq2, show ((q + 1 : Nat) : Int) = (q : Int) + 1 from by omega] at HS HG1
        have HQ := Lib.hid hq
        have kq : (q : Int) ≤ 9000000 := by omega
        obtain ⟨c1, hc1⟩ : ∃ c, spotC xs (i * 2) = c := ⟨_, rfl⟩
        obtain ⟨c2, hc2⟩ : ∃ c, spotC xs (i * 2 + 1) = c := ⟨_, rfl⟩
        rw [hc1] at hold
        rw [hc2] at hold2
        clear hst hst2 hown hgr hq hq2 hc1 hc2 hv'
        go_wp2
        go_roundw
        case rel => exact ⟨i + 1, by omega, by have := HQ.out; go_num, by go_num, by have := HS.out; rwa [show (i + 1) * 2 = i * 2 + 1 + 1 from by omega], HG1.out⟩
        case measure => simp [intOf]; omega
      · obtain rfl : i = n := by omega
        rw [partS_full] at hown
        have HO := Lib.hid hown
        have HG := Lib.hid hgr
        clear hown hgr hv'
        go_wp2
        go_ret
        exact ⟨by simp, by unfold OwnS; rw [marksS_len]; exact HO.out, HG.out⟩

/-- a slice of spots and a bool handed back -/
def SaysSp (xs : List (Int × Int)) (ok : Bool) (w : World) (e : Ending) (w' : World) : Prop :=
  ∃ ao n cap, e = .returned (.tuple #[.slice ao n cap, .bool ok]) ∧ OwnS w' w.heap.size (.slice ao n cap) xs ∧ Below w.heap.size w w'
end Go.Proofs.YthoffbibaimjlaaDoor
