/- Contracts of single functions, and plain lemmas, on which the exact laws of this seat rest; each holds under the conditions that it states. -/
import Derived.Test.YtdeagfmldpociaaDoorLib
import Derived.Test.YtdeagfmldpociaaDoorV5
import Derived.Test.YtdeagfmldpociaaDoorAL1
namespace Go.Proofs.YtdeagfmldpociaaDoor
set_option linter.unusedVariables false
open Go.RowKit

set_option maxHeartbeats 400000 in
theorem toStringS_any (b off n cap : Nat) (ss : List ByteArray) (w : World) (hn : ss.length = n) (hN : n ≤ 1048576) (hc : Strs w b off ss) :
    Calls Tryd.prog 98 #[.slice (some ⟨b, off, none⟩) n cap] w fun e w' =>
      e = .returned (.slice (some ⟨w.heap.size, 0, none⟩) n n) ∧ w'.ownsRow w.heap.size 9 1 (.slice (some ⟨w.heap.size, 0, none⟩) n n) n (ss.map Value.string) ∧ Below w.heap.size w w' := by
  obtain ⟨i0, hi, hz0, hz1, hz2⟩ := info_parts Tryd.info9
  obtain ⟨hb, hc⟩ := hc
  have HC := Lib.hid hc
  clear hc
  go_enter Tryd.func98, Tryd.ntmps98
  go_wp2_with (at_make; refine wpList_make_full _ rfl _ _ 55 rfl w.heap.size 9 i0 (.string ⟨#[]⟩) 1 Tryd.underlying55 hi hz0 hz1 _ _ _ _ n rfl rfl rfl rfl ?c1 ?c2 (Nat.le_refl _) ?_)
  case c1 => rw [hz2]; omega
  case c2 => unfold maxLen; omega
  intro w1 hown hg
  rw [toList_madeCells_one] at hown
  have hbel : Below w.heap.size w w1 := (Below.refl _ _).grown hg (Nat.le_refl _) (fun k h => by cases h)
  clear hg
  go_wp2
  go_loopw [4] (fun i wr => ∃ k : Nat, k ≤ n ∧ i = .int .i64 k ∧ wr.ownsRow w.heap.size 9 1 (.slice (some ⟨w.heap.size, 0, none⟩) n n) n ((List.range k).map (fun i => Value.string (ss.getD i ByteArray.empty)) ++ List.replicate (n - k) (.string ⟨#[]⟩)) ∧ Below w.heap.size w wr) (fun i _ => n - (intOf i).toNat)
  case atStart => exact ⟨0, Nat.zero_le _, rfl, by simpa using hown, hbel⟩
  case round =>
    clear hown hbel
    obtain ⟨k, hk, rfl, hown, hbel⟩ := hrel
    by_cases hlt : k < n
    · have hcell : wr.cell? ⟨b, off + k, none⟩ = some (.string (ss.getD k ByteArray.empty)) := (hbel.cell (p := ⟨b, off + k, none⟩) hb).trans (HC.out k (by omega))
      have hfz := hown.frozenAt k
      have hold := hown.cellAt k (by omega)
      rw [List.getElem?_append_right (by simp)] at hold
      simp only [List.length_map, List.length_range, Nat.sub_self] at hold
      rw [show n - k = (n - (k + 1)) + 1 from by omega, List.replicate_succ] at hold
      simp only [List.getElem?_cons_zero] at hold
      have hst := hown.stored k (.string (ss.getD k ByteArray.empty))
      rw [set_prefix (fun i => Value.string (ss.getD i ByteArray.empty)) _ n k hlt] at hst
      have HS := Lib.hid hst
      have HO := Lib.hid hown
      have HB := Lib.hid hbel
      obtain ⟨s, hs⟩ : ∃ s, ss.getD k ByteArray.empty = s := ⟨_, rfl⟩
      rw [hs] at hcell HS
      have Hs := Lib.hid hs
      clear hst hown hbel hs
      go_wp2
      go_roundw
      case rel => exact ⟨k + 1, by omega, by go_num, HS.out.1, HB.out.setCell (Nat.le_refl _) _⟩
      case measure => simp [intOf]; omega
    · obtain rfl : k = n := by omega
      subst hn
      simp only [Nat.sub_self, List.replicate_zero, List.append_nil, range_getD] at hown
      have HO := Lib.hid hown
      have HB := Lib.hid hbel
      clear hown hbel
      go_wp2
      go_ret
      exact ⟨rfl, HO.out, HB.out⟩

set_option maxHeartbeats 400000 in
theorem toStringS_sl (v : Value) (ss : List ByteArray) (w : World) (hN : ss.length ≤ 1048576) (hv : Sl w v ss) :
    Calls Tryd.prog 98 #[v] w fun e w' => e = .returned (.slice (some ⟨w.heap.size, 0, none⟩) ss.length ss.length) ∧ OwnP w' w.heap.size (.slice (some ⟨w.heap.size, 0, none⟩) ss.length ss.length) ss ∧ Below w.heap.size w w' := by
  rcases hv with ⟨ao, cap, rfl, rfl⟩ | ⟨b, off, cap, rfl, hpos, hc⟩
  · obtain ⟨i0, hi, hz0, hz1, hz2⟩ := info_parts Tryd.info9
    go_enter Tryd.func98, Tryd.ntmps98
    go_wp2_with (at_make; refine wpList_make_full _ rfl _ _ 55 rfl w.heap.size 9 i0 (.string ⟨#[]⟩) 1 Tryd.underlying55 hi hz0 hz1 _ _ _ _ 0 rfl rfl rfl rfl ?c1 ?c2 (Nat.le_refl _) ?_)
    case c1 => omega
    case c2 => unfold maxLen; omega
    intro w1 hown hg
    rw [toList_madeCells_one] at hown
    have hbel : Below w.heap.size w w1 := (Below.refl _ _).grown hg (Nat.le_refl _) (fun k h => by cases h)
    have HB := Lib.hid hbel
    have HO := Lib.hid hown
    clear hg hown hbel
    go_wp2
    refine wp_loop_rounds 1 ?_; rw [rounds_succ]
    go_wp2
    go_ret
    exact ⟨rfl, HO.out, HB.out⟩
  · exact toStringS_any b off ss.length cap ss w rfl hN hc

theorem toPicture_any (v : Value) (ss : List ByteArray) (w : World) (hN : ss.length ≤ 1048576) (hv : Sl w v ss) :
    Calls Tryd.prog 43 #[.agg #[v]] w (TookPic w ss) := by
  go_enter Tryd.func43, Tryd.ntmps43
  go_wp2_with fail
  refine (toStringS_sl v ss _ hN (hv.below (Joins.below_alloc3 w _ _ _))).mono ?_
  rintro e w1 ⟨rfl, hown, hb⟩
  simp at hown
  obtain ⟨hc, hf⟩ := bcell hb
  have hz : w.heap.size + 2 < w1.heap.size := by have := hb.size; simp at this; omega
  have hz1 : w.heap.size + 1 < w1.heap.size := by omega
  go_wp2_with fail
  refine bodyPost_ret (v := .agg #[.slice (some ⟨w.heap.size + 1 + 1 + 1, 0, none⟩) ss.length ss.length]) (by simp [results, Tryd.results43, go_sem, hc]) rfl ⟨_, _, rfl, ?_, ?_⟩
  · have := ownsRow_setCell_below (ownsRow_setCell_below hown (a := ⟨w.heap.size + 1 + 1, 0, none⟩) (by simp) (.slice (some ⟨w.heap.size + 1 + 1 + 1, 0, none⟩) ss.length ss.length)) (a := ⟨w.heap.size + 1, 0, none⟩) (by simp) (.slice (some ⟨w.heap.size + 1 + 1 + 1, 0, none⟩) ss.length ss.length)
    exact Joins.ownsRow_le this (by omega)
  · exact (((Joins.below_alloc3 w _ _ _).trans (hb.mono (by simp; omega))).setCell (by simp; omega) _).setCell (by simp) _
end Go.Proofs.YtdeagfmldpociaaDoor

/- Contracts of single functions, and plain lemmas, on which the exact laws of this seat rest; each holds under the conditions that it states. -/
namespace Go.Proofs.YtdeagfmldpociaaDoor
set_option linter.unusedVariables false
set_option linter.unusedSimpArgs false
open Go.RowKit

/-! ### rows of numbers as arguments: sizes and copies -/
/-- what the size of rows of rows says -/
def SomeSzR (left : Int) (n : Nat) (f : Nat → List Int) (w : World) (e : Ending) (w' : World) : Prop :=
  ∃ r : Int, e = .returned (.int .i64 r) ∧ r ≤ left ∧ -1 ≤ r ∧ (0 ≤ r → (n : Int) + (offR f n : Nat) ≤ left) ∧ Below w.heap.size w w'

/-! ### copies -/
/-- a new row is put into the rows -/
theorem OwnR.put {w w1 : World} {lo g n cap j : Nat} {us : Nat → Value} {f : Nat → List Int} {u : Value} {x : List Int} (h : OwnR w lo w.heap.size (.slice (some ⟨g, 0, none⟩) n cap) us n f) (hlo : lo ≤ w.heap.size) (hj : j < n) (hb : Below w.heap.size w w1) (ho : OwnN w1 w.heap.size u x) :
    OwnR (w1.setCell ⟨g, j, none⟩ u) lo w1.heap.size (.slice (some ⟨g, 0, none⟩) n cap) (fun i => if i = j then u else us i) n (fun i => if i = j then x else f i) := by
  have hr := own_below h.row hb
  have hs := hb.size
  refine ⟨?_, fun i hi => ?_, fun i hi k hk => ?_, fun k hk => Nat.lt_of_lt_of_le (h.top k hk) hs, fun a c ha hc hac k hk hk2 => ?_⟩
  · have := hr.stored j u
    have e : ((List.range n).map us).set j u = (List.range n).map (fun i => if i = j then u else us i) := by
      apply List.ext_getElem?
      intro i
      rw [List.getElem?_set]
      by_cases e : j = i
      · subst e
        simp [hj]
      · rw [if_neg e]
        by_cases hi : i < n
        · simp [hi, show ¬ i = j from fun h => e h.symm]
        · simp [hi]
    rw [e] at this
    exact this.1
  · by_cases e : i = j
    · simp only [if_pos e]
      have h1 := ownsRow_setCell_other ho (a := ⟨g, j, none⟩) (fun e2 => own_two hr ho (by decide) g rfl e2) u
      exact OwnN.mono h1 hlo
    · simp only [if_neg e]
      have h1 : OwnN w1 lo (us i) (f i) := own_below (h.each i hi) hb
      exact ownsRow_setCell_other h1 (a := ⟨g, j, none⟩) (fun e2 => own_two hr h1 (by decide) g rfl e2) u
  · by_cases e : i = j
    · simp only [if_pos e] at hk
      exact (ho.lt k hk).2
    · simp only [if_neg e] at hk
      exact Nat.lt_of_lt_of_le (h.up i hi k hk) hs
  · by_cases ea : a = j
    · have ec : ¬ c = j := fun e => hac (ea.trans e.symm)
      simp only [if_pos ea] at hk
      simp only [if_neg ec] at hk2
      have := (ho.lt k hk).1
      have := h.up c hc k hk2
      omega
    · simp only [if_neg ea] at hk
      by_cases ec : c = j
      · simp only [if_pos ec] at hk2
        have := (ho.lt k hk2).1
        have := h.up a ha k hk
        omega
      · simp only [if_neg ec] at hk2
        exact h.apart a c ha hc hac k hk hk2

def TookR (w : World) (n : Nat) (f : Nat → List Int) (e : Ending) (w' : World) : Prop := ∃ g cap, e = .returned (.slice (some ⟨g, 0, none⟩) n cap) ∧ (∃ us, OwnR w' w.heap.size w'.heap.size (.slice (some ⟨g, 0, none⟩) n cap) us n f) ∧ Below w.heap.size w w'

theorem rep_nil (n : Nat) : List.replicate n (Value.slice none 0 0) = (List.range n).map (fun _ => Value.slice none 0 0) := by
  apply List.ext_getElem?
  intro i
  by_cases h : i < n
  · simp [h]
  · simp [h]

end Go.Proofs.YtdeagfmldpociaaDoor
