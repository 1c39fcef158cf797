/- Contracts of single functions, and plain lemmas, on which the exact laws of this seat rest; each holds under the conditions that it states. -/
import Derived.Test.YtnmnlbgialolhaaDoorTo
namespace Go.Proofs.YtnmnlbgialolhaaDoor
set_option linter.unusedVariables false
open Go.RowKit

set_option maxHeartbeats 400000 in
theorem szStringS_any (v : Value) (ss : List ByteArray) (left : Int) (w : World) (h0 : 0 ≤ left) (h1 : left ≤ 1048576) (hN : ss.length ≤ maxLen) (hz : ∀ s ∈ ss, s.size ≤ maxLen) (hv : Sl w v ss) :
    Calls Tryd.prog 36 #[v, .int .i64 left] w (SomeSz left ss w) := by
  unfold maxLen at hN hz
  rcases hv with ⟨ao, cap, rfl, rfl⟩ | ⟨b, off, cap, rfl, hpos, hb, hc⟩
  · go_enter Tryd.func36, Tryd.ntmps36
    go_wp2
    refine wp_loop_rounds 1 ?_; rw [rounds_succ]
    go_wp2
    go_ret
    exact ⟨_, rfl, by omega, by omega, fun _ => ⟨by simpa using h0, fun s h => by cases h⟩, Below.refl _ _⟩
  · obtain ⟨n, hn⟩ : ∃ n, ss.length = n := ⟨_, rfl⟩
    rw [hn] at hc hpos hN ⊢
    have HN := Lib.hid hn
    have HC := Lib.hid hc
    have HZ := Lib.hid hz
    clear hn hc hz
    by_cases hl : left - n < 0
    · go_enter Tryd.func36, Tryd.ntmps36
      go_wp2
      go_ret
      exact ⟨_, rfl, by omega, by omega, fun h => absurd h (by decide), Below.refl _ _⟩
    · go_enter Tryd.func36, Tryd.ntmps36
      go_wp2
      go_loop [1, 5] (fun l i => ∃ (k : Nat) (q : Int), k ≤ n ∧ i = .int .i64 k ∧ l = .int .i64 q ∧ 0 ≤ q ∧ q ≤ left ∧ Hid (∀ j, j < k → ((ss.getD j ByteArray.empty).size : Int) ≤ left)) (fun _ i => n - (intOf i).toNat)
      case atStart => exact ⟨0, left - n, Nat.zero_le _, rfl, rfl, by omega, by omega, fun j h => by omega⟩
      case round =>
        obtain ⟨k, q, hk, rfl, rfl, hq0, hq1, H⟩ := hrel
        by_cases hlt : k < n
        · have hcell := HC.out k hlt
          obtain ⟨s, hs⟩ : ∃ s, ss.getD k ByteArray.empty = s := ⟨_, rfl⟩
          rw [hs] at hcell
          have hsz : s.size ≤ 2 ^ 63 - 1 := by
            rw [← hs]
            refine HZ.out _ ?_
            have hk' : k < ss.length := by rw [HN.out]; exact hlt
            rw [List.getD_eq_getElem?_getD, List.getElem?_eq_getElem hk']
            exact List.getElem_mem _
          have Hs := Lib.hid hs
          clear hs
          by_cases hq : q - s.size < 0
          · go_wp2
            go_ret
            exact ⟨_, rfl, by omega, by omega, fun h => absurd h (by decide), Below.refl _ _⟩
          · go_wp2
            go_round
            case rel => exact ⟨k + 1, q - s.size, by omega, by go_num, rfl, by omega, by omega, fun j hj => by
              by_cases e : j = k
              · subst e; rw [Hs.out]; omega
              · exact H.out j (by omega)⟩
            case measure => simp [intOf]; omega
        · obtain rfl : k = n := by omega
          go_wp2
          go_ret
          exact ⟨_, rfl, by omega, by omega, fun _ => ⟨by rw [HN.out]; omega, fun s hs => by
            obtain ⟨j, hj, rfl⟩ := List.getElem_of_mem hs
            have := H.out j (by rw [HN.out] at hj; exact hj)
            rw [List.getD_eq_getElem?_getD, List.getElem?_eq_getElem hj] at this
            exact this⟩, Below.refl _ _⟩

theorem szPicture_any (v : Value) (ss : List ByteArray) (left : Int) (w : World) (h0 : 0 ≤ left) (h1 : left ≤ 1048576) (hN : ss.length ≤ maxLen) (hz : ∀ s ∈ ss, s.size ≤ maxLen) (hv : Sl w v ss) :
    Calls Tryd.prog 10 #[.agg #[v], .int .i64 left] w (SomeSz left ss w) := by
  go_enter Tryd.func10, Tryd.ntmps10
  go_wp2_with fail
  refine (szStringS_any v ss left _ h0 h1 hN hz (hv.below (Joins.below_alloc1 w _))).mono ?_
  rintro e w' ⟨r, rfl, h2, h3, h4, hb⟩
  by_cases hr : r < 0
  · go_wp2_with fail
    go_ret
    exact ⟨_, rfl, by omega, by omega, fun h => absurd h (by decide), (Joins.below_alloc1 w _).trans (hb.mono (by simp))⟩
  · go_wp2_with fail
    go_ret
    exact ⟨_, rfl, by omega, by omega, h4, (Joins.below_alloc1 w _).trans (hb.mono (by simp))⟩
end Go.Proofs.YtnmnlbgialolhaaDoor
