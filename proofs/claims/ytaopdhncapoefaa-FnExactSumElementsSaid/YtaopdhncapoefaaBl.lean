/- Contracts of single functions, and plain lemmas, on which the exact laws of this seat rest; each holds under the conditions that it states. -/
import Derived.Test.YtaopdhncapoefaaMa
namespace Go.Proofs.Ytaopdhncapoefaa
set_option linter.unusedVariables false
open Go.RowKit

/-- a matrix's cells: the words are natural numbers -/
def mat (a b : Nat) (g : Nat → Nat) : Array Value := mcells a b (fun j => (g j : Int))

def blackB (a b : Nat) (g : Nat → Nat) (x y : Int) : Bool := hasB a b x y && (g y.toNat).testBit x.toNat

theorem bit_shift (W x : Nat) (hW : W < 4294967296) : bits .and .u32 ((W : Int) / (2 : Int) ^ x) 1 = if W.testBit x then 1 else 0 := by
  have e : (W : Int) / (2 : Int) ^ x = ((W / 2 ^ x : Nat) : Int) := by simp
  have hlt : W / 2 ^ x < 4294967296 := Nat.lt_of_le_of_lt (Nat.div_le_self _ _) hW
  rw [e, show (1 : Int) = ((1 : Nat) : Int) from rfl, u32_and_nat _ 1 hlt (by omega), nat_mask1, Nat.testBit, Nat.shiftRight_eq_div_pow, ]
  have : 1 &&& W / 2 ^ x = (W / 2 ^ x) % 2 := nat_mask1' _
  rw [this]
  rcases Nat.mod_two_eq_zero_or_one (W / 2 ^ x) with h | h <;> simp [h]

end Go.Proofs.Ytaopdhncapoefaa
