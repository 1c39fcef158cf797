/- Contracts of single functions, and plain lemmas, on which the exact laws of this seat rest; each holds under the conditions that it states. -/
import Derived.Test.YtakaglbbcaplhaaDoorR3
namespace Go.Proofs.YtakaglbbcaplhaaDoor
set_option linter.unusedVariables false
set_option linter.unusedSimpArgs false
open Go.RowKit

/-- how many of the first k pixels of a quad are black -/
def cntQ (b0 b1 b2 b3 : Bool) : Nat → Nat
  | 0 => 0
  | 1 => b0.toNat
  | 2 => b0.toNat + b1.toNat
  | 3 => b0.toNat + b1.toNat + b2.toNat
  | _ => b0.toNat + b1.toNat + b2.toNat + b3.toNat
theorem cntQ_le (b0 b1 b2 b3 : Bool) (k : Nat) : cntQ b0 b1 b2 b3 k ≤ 4 := by
  have h0 := Bool.toNat_le b0
  have h1 := Bool.toNat_le b1
  have h2 := Bool.toNat_le b2
  have h3 := Bool.toNat_le b3
  unfold cntQ
  split <;> omega
/-- the kind of a quad: none, one, three, across -/
def kdN (b0 b1 b2 b3 : Bool) : Nat :=
  if cntQ b0 b1 b2 b3 4 = 1 then 1 else if cntQ b0 b1 b2 b3 4 = 3 then 2 else if cntQ b0 b1 b2 b3 4 = 2 ∧ b0 = b2 then 3 else 0
theorem kdN_le (b0 b1 b2 b3 : Bool) : kdN b0 b1 b2 b3 ≤ 3 := by
  unfold kdN
  split
  · omega
  · split
    · omega
    · split <;> omega
section
variable (b0 b1 b2 b3 : Bool) (w : World)
end

end Go.Proofs.YtakaglbbcaplhaaDoor
