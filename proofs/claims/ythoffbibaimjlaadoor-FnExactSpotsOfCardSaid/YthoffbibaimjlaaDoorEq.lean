/- Contracts of single functions, and plain lemmas, on which the exact laws of this seat rest; each holds under the conditions that it states. -/
import Derived.Test.YthoffbibaimjlaaDoorLib
namespace Go.Proofs.YthoffbibaimjlaaDoor
set_option linter.unusedVariables false
open Go.RowKit

theorem str_ne {s t : ByteArray} (h : s ≠ t) : (s.toList == t.toList) = false := by
  rw [beq_eq_false_iff_ne, ByteArray.toList_eq, ByteArray.toList_eq]
  exact fun e => h (WideShapes.bytes_inj e)

def sameL (xs ys : List ByteArray) : Bool := decide (xs = ys)

theorem sameL_no {xs ys : List ByteArray} {k : Nat} (h : xs.getD k ByteArray.empty ≠ ys.getD k ByteArray.empty) : sameL xs ys = false := by
  unfold sameL
  rw [decide_eq_false_iff_not]
  intro e; exact h (by rw [e])

theorem sameL_yes {xs ys : List ByteArray} {n : Nat} (ha : xs.length = n) (hb : ys.length = n) (h : ∀ j, j < n → xs.getD j ByteArray.empty = ys.getD j ByteArray.empty) : sameL xs ys = true := by
  unfold sameL
  rw [decide_eq_true_iff]
  apply List.ext_getElem (by omega)
  intro i h1 h2
  have := h i (by omega)
  rwa [List.getD_eq_getElem?_getD, List.getD_eq_getElem?_getD, List.getElem?_eq_getElem h1, List.getElem?_eq_getElem h2] at this

/-- an ending that answers b, with no more than new blocks -/
def SaysB (b : Bool) (w : World) (e : Ending) (w' : World) : Prop := e = .returned (.bool b) ∧ Below w.heap.size w w'

set_option maxHeartbeats 1000000 in
theorem eqStringS_any (u v : Value) (xs ys : List ByteArray) (w : World) (hA : xs.length ≤ maxLen) (hB : ys.length ≤ maxLen) (hu : Sl w u xs) (hv : Sl w v ys) :
    Calls Tryd.prog 22 #[u, v] w (SaysB (sameL xs ys) w) := by
  unfold maxLen at hA hB
  have fu : ∃ ao cap, u = .slice ao xs.length cap := by
    rcases hu with ⟨ao, cap, rfl, rfl⟩ | ⟨b, off, cap, rfl, _⟩
    · exact ⟨_, _, rfl⟩
    · exact ⟨_, _, rfl⟩
  have fv : ∃ ao cap, v = .slice ao ys.length cap := by
    rcases hv with ⟨ao, cap, rfl, rfl⟩ | ⟨b, off, cap, rfl, _⟩
    · exact ⟨_, _, rfl⟩
    · exact ⟨_, _, rfl⟩
  by_cases hl : xs.length = ys.length
  · rcases hu with ⟨ao, cap, rfl, rfl⟩ | ⟨b, off, cap, rfl, hpos, hb, hc⟩
    · obtain rfl := List.length_eq_zero_iff.1 hl.symm
      obtain ⟨ao2, cap2, rfl⟩ := fv
      go_enter Tryd.func22, Tryd.ntmps22
      go_wp2
      refine wp_loop_rounds 1 ?_; rw [rounds_succ]
      go_wp2
      go_ret
      exact ⟨rfl, Below.refl _ _⟩
    · rcases hv with ⟨ao2, cap2, rfl, rfl⟩ | ⟨b2, off2, cap2, rfl, hpos2, hb2, hc2⟩
      · simp at hl; subst hl; simp at hpos
      · clear fu fv
        obtain ⟨n, hn⟩ : ∃ n, xs.length = n := ⟨_, rfl⟩
        have hn2 : ys.length = n := by omega
        rw [hn] at hc hpos ⊢
        rw [hn2] at hc2 ⊢
        have HN := Lib.hid hn
        have HN2 := Lib.hid hn2
        have HC := Lib.hid hc
        have HC2 := Lib.hid hc2
        have hN : n ≤ 2 ^ 63 - 1 := by omega
        clear hn hn2 hc hc2 hl hpos2 hA hB
        go_enter Tryd.func22, Tryd.ntmps22
        go_wp2
        go_loopw [5] (fun i wr => ∃ k : Nat, k ≤ n ∧ i = .int .i64 k ∧ Hid (∀ j, j < k → xs.getD j ByteArray.empty = ys.getD j ByteArray.empty) ∧ Below w.heap.size w wr) (fun i _ => n - (intOf i).toNat)
        case atStart => exact ⟨0, Nat.zero_le _, rfl, fun j h => by omega, Below.refl _ _⟩
        case round =>
          obtain ⟨k, hk, rfl, H, hbel⟩ := hrel
          by_cases hlt : k < n
          · have hcell := (hbel.cell (p := ⟨b, off + k, none⟩) hb).trans (HC.out k hlt)
            have hcell2 := (hbel.cell (p := ⟨b2, off2 + k, none⟩) hb2).trans (HC2.out k hlt)
            obtain ⟨s, hs⟩ : ∃ s, xs.getD k ByteArray.empty = s := ⟨_, rfl⟩
            obtain ⟨s2, hs2⟩ : ∃ s, ys.getD k ByteArray.empty = s := ⟨_, rfl⟩
            rw [hs] at hcell
            rw [hs2] at hcell2
            have Hs := Lib.hid hs
            have Hs2 := Lib.hid hs2
            have HB := Lib.hid hbel
            clear hs hs2 hbel
            have k0 : (0 : Int) ≤ (k : Int) := by omega
            have k1 : (k : Int) < (n : Int) := by omega
            by_cases he : s = s2
            · subst he
              go_wp2
              go_quiet (fail)
              go_wp2
              go_roundw
              case rel => exact ⟨k + 1, by omega, by go_num, fun j hj => by
                by_cases e : j = k
                · subst e; rw [Hs.out, Hs2.out]
                · exact H.out j (by omega), HB.out.trans (Joins.below_draws _ _ _)⟩
              case measure => simp [intOf]; omega
            · have he2 : (s.toList == s2.toList) = false := str_ne he
              have hno := Lib.hid (sameL_no (xs := xs) (ys := ys) (k := k) (by rw [Hs.out, Hs2.out]; exact he))
              clear he
              go_wp2
              go_quiet (fail)
              go_wp2
              go_ret
              exact ⟨ret_bool (a := false) hno.out.symm, HB.out.trans (Joins.below_draws _ _ _)⟩
          · obtain rfl : k = n := by omega
            have hyes := Lib.hid (sameL_yes HN.out HN2.out H.out)
            have HB := Lib.hid hbel
            clear hbel
            go_wp2
            go_ret
            exact ⟨ret_bool (a := true) hyes.out.symm, HB.out⟩
  · have hno : sameL xs ys = false := by
      unfold sameL; rw [decide_eq_false_iff_not]; intro e; exact hl (by rw [e])
    have HNo := Lib.hid hno
    obtain ⟨ao, cap, rfl⟩ := fu
    obtain ⟨ao2, cap2, rfl⟩ := fv
    have hl2 : ((xs.length : Int) == (ys.length : Int)) = false := by simp; omega
    clear hno hu hv
    go_enter Tryd.func22, Tryd.ntmps22
    go_wp2
    go_ret
    exact ⟨ret_bool (a := false) HNo.out.symm, Below.refl _ _⟩

theorem eqPicture_any (u v : Value) (xs ys : List ByteArray) (w : World) (hA : xs.length ≤ maxLen) (hB : ys.length ≤ maxLen) (hu : Sl w u xs) (hv : Sl w v ys) :
    Calls Tryd.prog 9 #[.agg #[u], .agg #[v]] w (SaysB (sameL xs ys) w) := by
  obtain ⟨r, hr⟩ : ∃ r, sameL xs ys = r := ⟨_, rfl⟩
  have c := fun w' (hb : Below w.heap.size w w') => eqStringS_any u v xs ys w' hA hB (hu.below hb) (hv.below hb)
  rw [hr] at c ⊢
  have C := Lib.hid c
  clear c hr
  cases r
  all_goals
    go_enter Tryd.func9, Tryd.ntmps9
    go_wp2_with fail
    refine (C.out _ (Joins.below_alloc2 w _ _)).mono ?_
    rintro e w' ⟨rfl, hb⟩
    have HB := Lib.hid hb
    clear hb
    go_wp2_with fail
    go_ret
    exact ⟨rfl, (Joins.below_alloc2 w _ _).trans (HB.out.mono (by simp; omega))⟩
end Go.Proofs.YthoffbibaimjlaaDoor
