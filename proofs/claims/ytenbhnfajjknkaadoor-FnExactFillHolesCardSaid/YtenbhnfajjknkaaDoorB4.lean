/- Contracts of single functions, and plain lemmas, on which the exact laws of this seat rest; each holds under the conditions that it states. -/
import Derived.Test.YtenbhnfajjknkaaDoorOa
import Derived.Deep.QuietTactic
import Derived.BigQuiet
import Derived.Test.YtenbhnfajjknkaaDoorB1
import Derived.Test.YtenbhnfajjknkaaDoorLt
import Derived.Deep.RegionHeld3
import Derived.Deep.RegionWith
import Derived.StillTailTactics
import Derived.Test.YtenbhnfajjknkaaDoorPb
namespace Go.Proofs.YtenbhnfajjknkaaDoor
set_option linter.unusedVariables false
set_option linter.unusedSimpArgs false
open Go.RowKit

theorem eqI_yes {a b : Int} (h : a = b) : (a == b) = true := beq_iff_eq.2 h
theorem eqI_no {a b : Int} (h : a ≠ b) : (a == b) = false := by simpa using h

end Go.Proofs.YtenbhnfajjknkaaDoor

/- Contracts of single functions, and plain lemmas, on which the exact laws of this seat rest; each holds under the conditions that it states. -/
namespace Go.Proofs.YtenbhnfajjknkaaDoor
set_option linter.unusedVariables false
set_option linter.unusedSimpArgs false
open Go.RowKit

def fitIn (X Y : Int) : Bool := inB X (-16) 32 && inB Y (-16) 32
def fitV (ss : List ByteArray) (xs : List (Int × Int)) (X Y : Int) : Bool := validB ss && (elB xs && (fitIn X Y && fitB ss xs X Y))

end Go.Proofs.YtenbhnfajjknkaaDoor

/- Contracts of single functions, and plain lemmas, on which the exact laws of this seat rest; each holds under the conditions that it states. -/
namespace Go.Proofs.YtenbhnfajjknkaaDoor
set_option linter.unusedVariables false
set_option linter.unusedSimpArgs false
open Go.RowKit

/-- is there one that the rule takes -/
def anyF (g : Nat → Bool) (n : Nat) : Bool := (List.range n).any g
theorem anyF_yes {g : Nat → Bool} {n i : Nat} (hi : i < n) (h : g i = true) : anyF g n = true := List.any_eq_true.2 ⟨i, List.mem_range.2 hi, h⟩
theorem anyF_no {g : Nat → Bool} {n : Nat} (h : ∀ i, i < n → g i = false) : anyF g n = false := by
  unfold anyF
  rw [List.any_eq_false]
  intro i hi
  rw [h i (List.mem_range.1 hi)]
  simp

end Go.Proofs.YtenbhnfajjknkaaDoor
