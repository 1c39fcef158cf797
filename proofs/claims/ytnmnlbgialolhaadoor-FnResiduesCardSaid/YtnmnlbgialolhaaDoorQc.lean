/- Contracts of single functions, and plain lemmas, on which the exact laws of this seat rest; each holds under the conditions that it states. -/
import Derived.Test.YtnmnlbgialolhaaDoorPb
import Derived.Test.YtnmnlbgialolhaaDoorA2
namespace Go.Proofs.YtnmnlbgialolhaaDoor
set_option linter.unusedVariables false
set_option linter.unusedSimpArgs false
open Go.RowKit

/-- the spots of the first N pixels that are black -/
def spL (f : Nat → Nat → Bool) (wd N : Nat) : List (Int × Int) := (List.range N).filterMap fun i => if f (i / wd) (i % wd) then some (((i % wd : Nat) : Int), ((i / wd : Nat) : Int)) else none
theorem spL_len (f : Nat → Nat → Bool) (wd N : Nat) : (spL f wd N).length ≤ N := by
  unfold spL
  have := List.length_filterMap_le (fun i => if f (i / wd) (i % wd) then some (((i % wd : Nat) : Int), ((i / wd : Nat) : Int)) else none) (List.range N)
  simpa using this
theorem spL_snoc (f : Nat → Nat → Bool) (wd y x : Nat) (hx : x < wd) : spL f wd (y * wd + x + 1) = spL f wd (y * wd + x) ++ (if f y x then [((x : Int), (y : Int))] else []) := by
  have h1 : (y * wd + x) / wd = y := by rw [Nat.mul_comm, Nat.mul_add_div (by omega), Nat.div_eq_of_lt hx, Nat.add_zero]
  have h2 : (y * wd + x) % wd = x := by rw [Nat.mul_comm, Nat.mul_add_mod, Nat.mod_eq_of_lt hx]
  unfold spL
  rw [List.range_succ, List.filterMap_append]
  congr 1
  simp only [List.filterMap_cons, List.filterMap_nil, h1, h2]
  split <;> simp_all

end Go.Proofs.YtnmnlbgialolhaaDoor
