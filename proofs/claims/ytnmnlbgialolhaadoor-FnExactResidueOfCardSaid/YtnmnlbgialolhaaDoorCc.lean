/- Contracts of single functions, and plain lemmas, on which the exact laws of this seat rest; each holds under the conditions that it states. -/
import Derived.Test.YtnmnlbgialolhaaDoorCa
import Derived.Test.YtnmnlbgialolhaaDoorSc
import Derived.Deep.MidRow
namespace Go.Proofs.YtnmnlbgialolhaaDoor
set_option linter.unusedVariables false
open Go.RowKit

/-- the black pixels of the first rows -/
def rs (g : Nat → Nat) : Nat → Nat
  | 0 => 0
  | y + 1 => rs g y + bs (g y) 16
theorem rs_succ (g : Nat → Nat) (y : Nat) : rs g (y + 1) = rs g y + bs (g y) 16 := rfl
theorem rs_le (g : Nat → Nat) : ∀ y, rs g y ≤ 16 * y
  | 0 => Nat.le_refl _
  | y + 1 => by have := rs_le g y; have := bs_le (g y) 16; rw [rs_succ]; omega
theorem bs_more {W k : Nat} (h : W < 2 ^ k) : ∀ d, bs W (k + d) = bs W k
  | 0 => rfl
  | d + 1 => by
    rw [show k + (d + 1) = (k + d) + 1 from by omega, bs_succ, bs_more h d]
    have : 2 ^ k ≤ 2 ^ (k + d) := Nat.pow_le_pow_right (by omega) (by omega)
    rw [Nat.testBit_lt_two_pow (by omega)]
    simp
theorem bs_row {ss : List ByteArray} (V : VP ss) (y : Nat) : bs (wordsOf ss y) 16 = bs (wordsOf ss y) (row0 ss).size := by
  have := bs_more (words_lt_pow V y) (16 - (row0 ss).size)
  rwa [show (row0 ss).size + (16 - (row0 ss).size) = 16 from by have := V.w16; omega] at this
theorem bs_zero : ∀ k, bs 0 k = 0
  | 0 => rfl
  | k + 1 => by rw [bs_succ, bs_zero k]; simp
theorem rs_more (ss : List ByteArray) : ∀ d, rs (wordsOf ss) (ss.length + d) = rs (wordsOf ss) ss.length
  | 0 => rfl
  | d + 1 => by
    rw [show ss.length + (d + 1) = (ss.length + d) + 1 from by omega, rs_succ, rs_more ss d]
    have : wordsOf ss (ss.length + d) = 0 := by unfold wordsOf; rw [if_neg (by omega)]
    rw [this, bs_zero, Nat.add_zero]
theorem rs_all {ss : List ByteArray} (V : VP ss) : rs (wordsOf ss) 16 = rs (wordsOf ss) ss.length := by
  have := rs_more ss (16 - ss.length)
  rwa [show ss.length + (16 - ss.length) = 16 from by have := V.n16; omega] at this

end Go.Proofs.YtnmnlbgialolhaaDoor

/- Contracts of single functions, and plain lemmas, on which the exact laws of this seat rest; each holds under the conditions that it states. -/
namespace Go.Proofs.YtnmnlbgialolhaaDoor
set_option linter.unusedVariables false
open Go.RowKit

/-- a number and a bool handed back -/
def SaysIB (n : Int) (ok : Bool) (w : World) (e : Ending) (w' : World) : Prop := e = .returned (.tuple #[.int .i64 n, .bool ok]) ∧ Below w.heap.size w w'
theorem ret_ib {a c : Int} {b d : Bool} (h1 : a = c) (h2 : b = d) : Ending.returned (.tuple #[.int .i64 a, .bool b]) = .returned (.tuple #[.int .i64 c, .bool d]) := by rw [h1, h2]

def cbV (ss : List ByteArray) : Int := if validB ss then ((rs (wordsOf ss) ss.length : Nat) : Int) else 0

end Go.Proofs.YtnmnlbgialolhaaDoor
