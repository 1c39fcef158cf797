/- Contracts of single functions, and plain lemmas, on which the exact laws of this seat rest; each holds under the conditions that it states. -/
import Derived.Test.YthoffbibaimjlaaDoorMk
import Derived.Deep.RegionHeld3
namespace Go.Proofs.YthoffbibaimjlaaDoor
set_option linter.unusedVariables false
open Go.RowKit

theorem grown_below {w a b : World} {row : Option Nat} (h : w.grownBy a row) (hb : Below a.heap.size a b) : w.grownBy b row :=
  ⟨hb.os.trans h.os, hb.tape.trans h.tape, hb.output.trans h.output, Nat.le_trans h.size hb.size, fun k hk hr => (hb.block k (Nat.lt_of_lt_of_le hk h.size)).trans (h.block k hk hr)⟩
theorem grown_setCell {w a : World} {g o : Nat} (h : w.grownBy a (some g)) (u : Value) : w.grownBy (a.setCell ⟨g, o, none⟩ u) (some g) :=
  ⟨h.os, h.tape, h.output, Nat.le_trans h.size (by simp [World.setCell]), fun k hk hr => (Below.heap_setCell a ⟨g, o, none⟩ u k (fun e => hr (by rw [e]))).trans (h.block k hk hr)⟩
theorem grown_refl (w : World) (row : Option Nat) : w.grownBy w row := ⟨rfl, rfl, rfl, Nat.le_refl _, fun _ _ _ => rfl⟩
/-- What a row of the call's own shows, behind writes to it alone. -/
theorem Below.grown_own {W w w' : World} {row : Option Nat} {B : Nat} (h : Below B W w) (hg : w.grownBy w' row) (hB : B ≤ w.heap.size) (hr : ∀ k, row = some k → B ≤ k) : Below B W w' := h.grown hg hB hr

theorem set_map_range {α : Type} (f : Nat → α) (n k : Nat) (x : α) : ((List.range n).map f).set k x = (List.range n).map (fun j => if j = k then x else f j) := by
  apply List.ext_getElem?
  intro i
  rw [List.getElem?_set]
  by_cases hi : k = i
  · subst hi
    by_cases hn : k < n <;> simp [hn]
  · have : ¬ i = k := fun e => hi e.symm
    by_cases hn : i < n <;> simp [hi, hn, this]

def marks (k n : Nat) : List ByteArray := (List.range n).map fun i => mt (k + i)
theorem marks_len (k n : Nat) : (marks k n).length = n := by simp [marks]
/-- i of n marks are laid over ss -/
def part (ss : List ByteArray) (k n i : Nat) : List Value := (List.range n).map fun j => if j < i then Value.string (mt (k + j)) else Value.string (ss.getD j ByteArray.empty)
theorem part_zero (ss : List ByteArray) (k : Nat) : part ss k ss.length 0 = ss.map Value.string := by
  unfold part
  simp only [Nat.not_lt_zero, if_false]
  exact range_getD ss
theorem part_full (ss : List ByteArray) (k n : Nat) : part ss k n n = (marks k n).map Value.string := by
  unfold part marks
  rw [List.map_map]
  apply List.map_congr_left
  intro j hj
  simp at hj
  simp [hj]
theorem part_set (ss : List ByteArray) (k n i : Nat) : (part ss k n i).set i (.string (mt (k + i))) = part ss k n (i + 1) := by
  unfold part
  rw [set_map_range]
  apply List.map_congr_left
  intro j hj
  by_cases h1 : j = i
  · subst h1; simp
  · by_cases h2 : j < i
    · simp [h1, h2, show j < i + 1 from by omega]
    · simp [h1, h2, show ¬ j < i + 1 from by omega]
theorem part_at (ss : List ByteArray) (k n i : Nat) (h : i < n) : (part ss k n i)[i]? = some (.string (ss.getD i ByteArray.empty)) := by
  unfold part
  simp [h]

/-- strings laid into a row of the call's own -/
def Marked (w : World) (base : Nat) (v : Value) (k n : Nat) (e : Ending) (w' : World) : Prop := e = .returned (.int .i64 ((k + n : Nat) : Int)) ∧ OwnP w' base v (marks k n) ∧ w.grownBy w' v.ownBlock

set_option maxHeartbeats 1000000 in
set_option maxRecDepth 100000 in
theorem markStringS_any (v : Value) (ss : List ByteArray) (base k : Nat) (w : World) (h1 : 1 ≤ k) (h2 : k + ss.length ≤ 9000000) (hv : OwnP w base v ss) :
    Calls Tryd.prog 28 #[v, .int .i64 k] w (Marked w base v k ss.length) := by
  rcases Joins.ownsRow_forms hv with ⟨rfl, h0⟩ | ⟨g, cap, rfl⟩
  · have h0' := List.length_eq_zero_iff.1 h0
    subst h0'
    go_enter Tryd.func28, Tryd.ntmps28
    go_wp2
    refine wp_loop_rounds 1 ?_; rw [rounds_succ]
    go_wp2
    go_ret
    exact ⟨rfl, hv, grown_refl _ _⟩
  · obtain ⟨n, hn⟩ : ∃ n, ss.length = n := ⟨_, rfl⟩
    have hv' : w.ownsRow base 9 1 (.slice (some ⟨g, 0, none⟩) n cap) n (part ss k n 0) := by
      rw [← hn, part_zero]; exact hv
    rw [hn] at h2 ⊢
    have hg := (hv.lt g rfl).2
    clear hv hn
    go_enter Tryd.func28, Tryd.ntmps28
    go_wp2
    go_loopw [1, 5] (fun kv iv wr => ∃ i : Nat, i ≤ n ∧ kv = .int .i64 ((k : Int) + i) ∧ iv = .int .i64 i ∧ wr.ownsRow base 9 1 (.slice (some ⟨g, 0, none⟩) n cap) n (part ss k n i) ∧ w.grownBy wr (some g)) (fun _ iv _ => n - (intOf iv).toNat)
    case atStart => exact ⟨0, Nat.zero_le _, by simp, rfl, hv', grown_refl _ _⟩
    case round =>
      obtain ⟨i, hi, rfl, rfl, hown, hgr⟩ := hrel
      by_cases hlt : i < n
      · have HO := Lib.hid hown
        have HG := Lib.hid hgr
        have HV := Lib.hid hv'
        clear hown hgr hv'
        go_wp2_with fail
        rw [show ((k : Int) + (i : Int)) = ((k + i : Nat) : Int) from by omega]
        refine (markText_any (k + i) _ (by omega) (by omega)).mono ?_
        rintro e w1 ⟨rfl, hb⟩
        have hown1 : w1.ownsRow base 9 1 (.slice (some ⟨g, 0, none⟩) n cap) n (part ss k n i) := HO.out.kept (w' := w1) (row := none) ⟨hb.os, hb.tape, hb.output, hb.size, fun k hk _ => hb.block k hk⟩ (by simp [Value.ownBlock])
        have hfz := hown1.frozenAt i
        have hold := (hown1.cellAt i (by omega)).trans (part_at ss k n i hlt)
        have hst := (hown1.stored i (.string (mt (k + i)))).1
        rw [part_set] at hst
        have HS := Lib.hid hst
        have HG1 := Lib.hid (grown_setCell (o := i) (grown_below HG.out hb) (.string (mt (k + i))))
        obtain ⟨s, hs⟩ : ∃ s, mt (k + i) = s := ⟨_, rfl⟩
        rw [hs] at HS HG1 ⊢
        clear hst hown1 hb hs
        go_wp2
        go_roundw
        case rel => exact ⟨i + 1, by omega, by go_num, by go_num, HS.out, HG1.out⟩
        case measure => simp [intOf]; omega
      · obtain rfl : i = n := by omega
        rw [part_full] at hown
        have HO := Lib.hid hown
        have HG := Lib.hid hgr
        clear hown hgr hv'
        go_wp2
        go_ret
        exact ⟨by simp, by unfold OwnP; rw [marks_len]; exact HO.out, HG.out⟩
end Go.Proofs.YthoffbibaimjlaaDoor
