/- Contracts of single functions, and plain lemmas, on which the exact laws of this seat rest; each holds under the conditions that it states. -/
import Derived.Test.YthoffbibaimjlaaDoorLs
import Derived.Test.YthoffbibaimjlaaDoorLk
namespace Go.Proofs.YthoffbibaimjlaaDoor
set_option linter.unusedVariables false
open Go.RowKit

/-- what is true in one list is true in the other one -/
def subB (xs ys : List Bool) : Bool := (List.range xs.length).all fun i => !(xs.getD i false && !ys.getD i false)
theorem subB_no {xs ys : List Bool} {i : Nat} (hi : i < xs.length) (h1 : xs.getD i false = true) (h2 : ys.getD i false = false) : subB xs ys = false := by
  unfold subB
  rw [List.all_eq_false]
  exact ⟨i, List.mem_range.2 hi, by rw [h1, h2]; decide⟩
theorem subB_yes {xs ys : List Bool} (h : ∀ i, i < xs.length → (xs.getD i false = true → ys.getD i false = true)) : subB xs ys = true := by
  unfold subB
  rw [List.all_eq_true]
  intro i hi
  have := h i (List.mem_range.1 hi)
  cases hx : xs.getD i false with
  | false => rfl
  | true => rw [this hx]; rfl

set_option maxHeartbeats 1600000 in
set_option maxRecDepth 100000 in
theorem l01Inside_any (pb qb : Nat) (ss tt : List ByteArray) (w : World) (hp : PicAt w pb 0 ss) (hq : PicAt w qb 0 tt) (hw : (row0 ss).size = (row0 tt).size) (hh : ss.length = tt.length) :
    Calls Tryd.prog 18 #[.pointer (some ⟨pb, 0, none⟩), .pointer (some ⟨qb, 0, none⟩)] w (SaysB (subB (pixL ss (row0 ss).size ((row0 ss).size * ss.length)) (pixL tt (row0 ss).size ((row0 ss).size * ss.length))) w) := by
  have c1 := l01List_any pb 0 ss w hp
  have c2 : ∀ W, Below w.heap.size w W → Calls Tryd.prog 31 #[.pointer (some ⟨qb, 0, none⟩)] W (Listed tt W) := fun W hb => l01List_any qb 0 tt W (hq.below hb)
  unfold Listed at c1 c2
  rw [← hw, ← hh] at c2
  have hN : (row0 ss).size * ss.length ≤ 256 := by
    obtain ⟨_, _, _, _, _, V⟩ := hp.open'
    exact Nat.mul_le_mul V.w16 V.n16
  have l1 := pixL_len ss (row0 ss).size ((row0 ss).size * ss.length)
  have l2 := pixL_len tt (row0 ss).size ((row0 ss).size * ss.length)
  obtain ⟨N, hNN⟩ : ∃ k, (row0 ss).size * ss.length = k := ⟨_, rfl⟩
  rw [hNN] at c1 c2 hN l1 l2 ⊢
  obtain ⟨xs, hxs⟩ : ∃ l, pixL ss (row0 ss).size N = l := ⟨_, rfl⟩
  obtain ⟨ys, hys⟩ : ∃ l, pixL tt (row0 ss).size N = l := ⟨_, rfl⟩
  rw [hxs] at c1 l1 ⊢
  rw [hys] at c2 l2 ⊢
  have C1 := Lib.hid c1
  have C2 := Lib.hid c2
  have L1 := Lib.hid l1
  have L2 := Lib.hid l2
  clear c1 c2 l1 l2 hNN hxs hys hp hq hw hh
  go_enter Tryd.func18, Tryd.ntmps18
  go_wp2_with fail
  refine C1.out.mono ?_
  rintro e w1 ⟨g1, k1, rfl, ho1, hb1⟩
  have B1 := Lib.hid hb1
  have X1 := Lib.hid (own_bools ho1 L1.out)
  clear hb1 ho1
  go_wp2_with fail
  refine (C2.out _ B1.out).mono ?_
  rintro e w2 ⟨g2, k2, rfl, ho2, hb2⟩
  have B2 := Lib.hid (B1.out.trans (hb2.mono B1.out.size))
  have Y2 := Lib.hid (own_bools ho2 L2.out)
  have X2 := Lib.hid (X1.out.below hb2)
  clear hb2 ho2 X1 B1
  go_wp2
  go_loop [14] (fun iv => ∃ i : Nat, i ≤ N ∧ iv = .int .i64 i ∧ Hid (∀ j, j < i → (xs.getD j false = true → ys.getD j false = true))) (fun iv => N - (intOf iv).toNat)
  case atStart => exact ⟨0, Nat.zero_le _, rfl, fun j h => by omega⟩
  case round =>
    obtain ⟨i, hi, rfl, H⟩ := hrel
    by_cases hlt : i < N
    · have ki : (i : Int) < (N : Int) := by omega
      have hx := X2.out.2 i (by rw [L1.out]; exact hlt)
      have hy := Y2.out.2 i (by rw [L2.out]; exact hlt)
      rw [Nat.zero_add] at hx hy
      cases hbx : xs.getD i false with
      | false =>
        rw [hbx] at hx
        have HX := Lib.hid hbx
        clear hbx hy
        go_wp2
        go_round
        case rel => exact ⟨i + 1, by omega, by go_num, fun j hj hjt => by
          by_cases e : j = i
          · subst e; rw [HX.out] at hjt; exact absurd hjt (by decide)
          · exact H.out j (by omega) hjt⟩
        case measure => simp [intOf]; omega
      | true =>
        rw [hbx] at hx
        have HX := Lib.hid hbx
        clear hbx
        cases hby : ys.getD i false with
        | true =>
          rw [hby] at hy
          have HY := Lib.hid hby
          clear hby
          go_wp2
          go_round
          case rel => exact ⟨i + 1, by omega, by go_num, fun j hj hjt => by
            by_cases e : j = i
            · subst e; exact HY.out
            · exact H.out j (by omega) hjt⟩
          case measure => simp [intOf]; omega
        | false =>
          rw [hby] at hy
          have hno := subB_no (xs := xs) (ys := ys) (i := i) (by rw [L1.out]; exact hlt) HX.out hby
          have HNo := Lib.hid hno
          clear hby hno
          go_wp2
          go_ret
          exact ⟨ret_b (a := false) HNo.out.symm, B2.out⟩
    · obtain rfl : i = N := by omega
      have hyes := subB_yes (xs := xs) (ys := ys) (fun j hj => H.out j (by rw [L1.out] at hj; exact hj))
      have HYes := Lib.hid hyes
      clear hyes
      go_wp2
      go_ret
      exact ⟨ret_b (a := true) HYes.out.symm, B2.out⟩

/-- one picture is inside the other one -/
def insideP (ss tt : List ByteArray) : Bool := likeB ss tt && subB (pixL ss (row0 ss).size ((row0 ss).size * ss.length)) (pixL tt (row0 ss).size ((row0 ss).size * ss.length))

set_option maxHeartbeats 1000000 in
set_option maxRecDepth 100000 in
theorem spec_Inside (u v : Value) (ss tt : List ByteArray) (w : World) (hN : ss.length ≤ maxLen) (hz : ∀ s ∈ ss, s.size ≤ maxLen) (hu : Sl w u ss) (hN2 : tt.length ≤ maxLen) (hz2 : ∀ s ∈ tt, s.size ≤ maxLen) (hv : Sl w v tt) :
    Calls Tryd.prog 6 #[.agg #[u], .agg #[v]] w (SaysB (insideP ss tt) w) := by
  have hb0 : Below w.heap.size w ((w.alloc (.cells #[u] 27)).alloc (.cells #[v] 27)) := Joins.below_alloc2 w _ _
  have hl1 : ((w.alloc (.cells #[u] 27)).alloc (.cells #[v] 27)).heap[w.heap.size]? = some (.cells #[u] 27 (0, 0)) := by
    rw [Below.heap_alloc _ _ _ (by simp)]; exact heap_alloc_last w _
  have hl2 : ((w.alloc (.cells #[u] 27)).alloc (.cells #[v] 27)).heap[w.heap.size + 1]? = some (.cells #[v] 27 (0, 0)) := heap_alloc2_new _ _ _
  have C := Lib.hid (l01Like_any w.heap.size (w.heap.size + 1) u v ss tt _ (cell_of_one hl1) (hu.below hb0) hN hz (cell_of_one hl2) (hv.below hb0) hN2 hz2)
  cases hok : likeB ss tt with
  | false =>
    have e : Hid (insideP ss tt = false) := by show insideP ss tt = _; unfold insideP; rw [hok]; rfl
    rw [hok] at C
    clear hok hl1 hl2 hu hv hb0
    go_enter Tryd.func6, Tryd.ntmps6
    go_wp2_with fail
    refine C.out.mono ?_
    rintro e w1 ⟨rfl, hb1⟩
    have HB := Lib.hid hb1
    clear hb1
    go_wp2_with fail
    go_ret
    exact ⟨ret_b (a := false) e.out.symm, (Joins.below_alloc2 w _ _).trans (HB.out.mono (by simp; omega))⟩
  | true =>
    have h4 := hok
    unfold likeB at h4
    simp only [Bool.and_eq_true, decide_eq_true_eq] at h4
    obtain ⟨⟨⟨v1, v2⟩, e1⟩, e2⟩ := h4
    have CI : Hid (∀ W, Below ((w.alloc (.cells #[u] 27)).alloc (.cells #[v] 27)).heap.size ((w.alloc (.cells #[u] 27)).alloc (.cells #[v] 27)) W → Calls Tryd.prog 18 #[.pointer (some ⟨w.heap.size, 0, none⟩), .pointer (some ⟨w.heap.size + 1, 0, none⟩)] W (SaysB (insideP ss tt) W)) := fun W hb => by
      have := l01Inside_any w.heap.size (w.heap.size + 1) ss tt W ⟨v1, u, cell_kept hb (cell_of_one hl1), (hu.below hb0).below hb⟩ ⟨v2, v, cell_kept hb (cell_of_one hl2), (hv.below hb0).below hb⟩ e1 e2
      unfold insideP
      rw [hok, Bool.true_and]
      exact this
    obtain ⟨r, hr⟩ : ∃ r, insideP ss tt = r := ⟨_, rfl⟩
    rw [hr] at CI ⊢
    rw [hok] at C
    clear hok hl1 hl2 hu hv hb0 v1 v2 e1 e2 hr
    go_enter Tryd.func6, Tryd.ntmps6
    go_wp2_with fail
    refine C.out.mono ?_
    rintro e w1 ⟨rfl, hb1⟩
    have HB := Lib.hid hb1
    clear hb1
    go_wp2_with fail
    refine (CI.out _ HB.out).mono ?_
    rintro e w2 ⟨rfl, hb2⟩
    have HB2 := Lib.hid (HB.out.trans (hb2.mono HB.out.size))
    clear hb2
    go_wp2_with fail
    go_ret
    exact ⟨rfl, (Joins.below_alloc2 w _ _).trans (HB2.out.mono (by simp; omega))⟩
end Go.Proofs.YthoffbibaimjlaaDoor
