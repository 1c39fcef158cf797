/- Contracts of single functions, and plain lemmas, on which the exact laws of this seat rest; each holds under the conditions that it states. -/
import Derived.Test.YthoffbibaimjlaaDoorMw
import Derived.Test.YthoffbibaimjlaaDoorSp
import Derived.Test.YthoffbibaimjlaaDoorPb
namespace Go.Proofs.YthoffbibaimjlaaDoor
set_option linter.unusedVariables false
open Go.RowKit

/-- the pixels of a function, in reading order -/
def listF (f : Nat → Nat → Bool) (wd N : Nat) : List Bool := (List.range N).map fun i => f (i / wd) (i % wd)
theorem listF_len (f : Nat → Nat → Bool) (wd N : Nat) : (listF f wd N).length = N := by simp [listF]
theorem listF_snoc (f : Nat → Nat → Bool) (wd y x : Nat) (hx : x < wd) : boolV (listF f wd (y * wd + x + 1)) = boolV (listF f wd (y * wd + x)) ++ [.bool (f y x)] := by
  have h1 : (y * wd + x) / wd = y := by rw [Nat.mul_comm, Nat.mul_add_div (by omega), Nat.div_eq_of_lt hx, Nat.add_zero]
  have h2 : (y * wd + x) % wd = x := by rw [Nat.mul_comm, Nat.mul_add_mod, Nat.mod_eq_of_lt hx]
  simp [boolV, listF, List.range_succ, h1, h2]
theorem listF_at (f : Nat → Nat → Bool) (wd h y x : Nat) (hy : y < h) (hx : x < wd) : (listF f wd (wd * h)).getD (y * wd + x) false = f y x := by
  have h1 : (y * wd + x) / wd = y := by rw [Nat.mul_comm, Nat.mul_add_div (by omega), Nat.div_eq_of_lt hx, Nat.add_zero]
  have h2 : (y * wd + x) % wd = x := by rw [Nat.mul_comm, Nat.mul_add_mod, Nat.mod_eq_of_lt hx]
  have h3 : (y + 1) * wd ≤ h * wd := Nat.mul_le_mul_right _ hy
  rw [Nat.add_mul, Nat.one_mul, Nat.mul_comm h wd] at h3
  have hlt : y * wd + x < wd * h := by omega
  simp [listF, List.getD, hlt, h1, h2]
theorem listF_pic (f : Nat → Nat → Bool) (wd h : Nat) : mkPic wd h (fun y x => (listF f wd (wd * h)).getD (y * wd + x) false) = mkPic wd h f :=
  mkPic_congr fun y hy x hx => listF_at f wd h y x hy hx

end Go.Proofs.YthoffbibaimjlaaDoor
