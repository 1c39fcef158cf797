/- Contracts of single functions, and plain lemmas, on which the exact laws of this seat rest; each holds under the conditions that it states. -/
import Derived.Test.YthoffbibaimjlaaDoorQb
namespace Go.Proofs.YthoffbibaimjlaaDoor
set_option linter.unusedVariables false
set_option linter.unusedSimpArgs false
open Go.RowKit

set_option maxHeartbeats 1000000 in
set_option maxRecDepth 100000 in
theorem heldSpotS_any (v : Value) (k n : Nat) (w : World) (h1 : 1 ≤ k) (h2 : k + n * 2 ≤ 9000000) (hv : SlS w v (marksS k n)) :
    Calls Tryd.prog 15 #[v, .int .i64 k] w (fun e w' => e = .returned (.int .i64 ((k + n * 2 : Nat) : Int)) ∧ w = w') := by
  rcases hv with ⟨ao, cap, rfl, h0⟩ | ⟨b, cap, rfl, hpos, hb, hc⟩
  · obtain rfl : n = 0 := by have := congrArg List.length h0; rwa [marksS_len] at this
    go_enter Tryd.func15, Tryd.ntmps15
    go_wp2
    refine wp_loop_rounds 1 ?_; rw [rounds_succ]
    go_wp2
    go_ret
    exact ⟨rfl, rfl⟩
  · rw [marksS_len] at hpos hc ⊢
    have HC := Lib.hid hc
    clear hc
    go_enter Tryd.func15, Tryd.ntmps15
    go_wp2
    go_loop [1, 5] (fun kv iv => ∃ i : Nat, i ≤ n ∧ kv = .int .i64 ((k + i * 2 : Nat) : Int) ∧ iv = .int .i64 i) (fun _ iv => n - (intOf iv).toNat)
    case atStart => exact ⟨0, Nat.zero_le _, by simp, rfl⟩
    case round =>
      obtain ⟨i, hi, rfl, rfl⟩ := hrel
      by_cases hlt : i < n
      · have ki : (i : Int) < (n : Int) := by omega
        have hx := (HC.out i hlt).1
        have hy := (HC.out i hlt).2
        rw [marksS_at k n i hlt] at hx hy
        obtain ⟨q, hq⟩ : ∃ q, k + i * 2 = q := ⟨_, rfl⟩
        rw [hq] at hx hy ⊢
        have hy' : w.cell? ⟨b, i * 2 + 1, none⟩ = some (.int .i64 ((q : Int) + 1)) := hy
        have HQ := Lib.hid hq
        have kq : (q : Int) ≤ 9000000 := by omega
        have n1 : ((q : Int) != (q : Int)) = false := by simp
        have n2 : ((q : Int) + 1 != (q : Int) + 1) = false := by simp
        clear hq hy
        go_wp2
        go_round
        case rel => exact ⟨i + 1, by omega, by have := HQ.out; go_num, by go_num⟩
        case measure => simp [intOf]; omega
      · obtain rfl : i = n := by omega
        go_wp2
        go_ret
        exact ⟨rfl, rfl⟩
end Go.Proofs.YthoffbibaimjlaaDoor
