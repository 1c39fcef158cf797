/- Contracts of single functions, and plain lemmas, on which the exact laws of this seat rest; each holds under the conditions that it states. -/
import Derived.Test.YtdeagfmldpociaaV1
import Derived.Test.YtdeagfmldpociaaV4
namespace Go.Proofs.Ytdeagfmldpociaa
set_option linter.unusedVariables false
set_option linter.unusedSimpArgs false
open Go.RowKit

theorem less_and (x m : Nat) (hx : x < 4294967296) (hm : m < 4294967296) : x &&& (4294967295 - m) = lessW x m := by
  apply Nat.eq_of_testBit_eq
  intro j
  have := Nat.testBit_two_pow_sub_succ (x := m) (n := 32) (by omega) j
  rw [show 2 ^ 32 - (m + 1) = 4294967295 - m from by omega] at this
  rw [lessW_bit, Nat.testBit_and, this]
  by_cases h : j < 32
  · simp [h]
  · rw [Nat.testBit_lt_two_pow (x := x) (Nat.lt_of_lt_of_le hx (by
      have : 2 ^ 32 ≤ 2 ^ j := Nat.pow_le_pow_right (by omega) (by omega)
      omega))]
    simp

/-! ### the runs of all rows -/
def rowR (r : Nat → Bool) (y t : Nat) : List (List Int) := (rl r t).map fun q => [(y : Int), (q.1 : Int), (q.2 : Int)]
def runsL (R : Nat → Nat → Bool) : Nat → List (List Int)
  | 0 => []
  | y + 1 => runsL R y ++ rowR (R y) y 17
theorem rowR_len (r : Nat → Bool) (y t : Nat) : (rowR r y t).length ≤ t := by unfold rowR; rw [List.length_map]; exact rl_len r t
theorem runsL_len (R : Nat → Nat → Bool) : ∀ y, (runsL R y).length ≤ y * 17
  | 0 => Nat.le_refl _
  | y + 1 => by
    have h1 := runsL_len R y
    have h2 := rowR_len (R y) y 17
    show (runsL R y ++ _).length ≤ _
    rw [List.length_append]
    omega
end Go.Proofs.Ytdeagfmldpociaa
