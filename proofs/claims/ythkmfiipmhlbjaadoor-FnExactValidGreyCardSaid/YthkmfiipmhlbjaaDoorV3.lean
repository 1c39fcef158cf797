/- Contracts of single functions, and plain lemmas, on which the exact laws of this seat rest; each holds under the conditions that it states. -/
import Derived.Test.YthkmfiipmhlbjaaDoorPb
import Derived.Shelf.Spec.TrailingZeros
namespace Go.Proofs.YthkmfiipmhlbjaaDoor
set_option linter.unusedVariables false
open Go.RowKit

/-- the numbers of math/bits.TrailingZeros32 and its types in this program -/
def tzRen : Go.Shelf.Ren := ⟨fun | 28 => 205 | n => n, fun | 0 => 0 | 3 => 3 | 4 => 4 | 5 => 5 | 25 => 209 | 27 => 92 | 53 => 244 | n => n, fun | 0 => 10 | n => n⟩
theorem tzLays : Lays7.n28 Tryd.prog tzRen := {
  mixed := by kernel_rfl
  f28 := Tryd.func205.trans (congrArg some (by kernel_rfl))
  t0 := by kernel_rfl
  a0 := fun _ => by kernel_rfl
  z0 := fun _ => by kernel_rfl
  v0 := fun _ => by kernel_rfl
  i0 := by kernel_rfl
  t3 := by kernel_rfl
  a3 := fun _ => by kernel_rfl
  z3 := fun _ => by kernel_rfl
  v3 := fun _ => by kernel_rfl
  i3 := by kernel_rfl
  t4 := by kernel_rfl
  a4 := fun _ => by kernel_rfl
  z4 := fun _ => by kernel_rfl
  v4 := fun _ => by kernel_rfl
  i4 := by kernel_rfl
  t5 := by kernel_rfl
  a5 := fun _ => by kernel_rfl
  z5 := fun _ => by kernel_rfl
  v5 := fun _ => by kernel_rfl
  i5 := by kernel_rfl
  t25 := by kernel_rfl
  a25 := fun _ => by kernel_rfl
  z25 := fun _ => by kernel_rfl
  v25 := fun _ => by kernel_rfl
  i25 := by kernel_rfl
  t27 := by kernel_rfl
  a27 := fun _ => by kernel_rfl
  z27 := fun _ => by kernel_rfl
  v27 := fun _ => by kernel_rfl
  i27 := by kernel_rfl
  t53 := by kernel_rfl
  a53 := fun _ => by kernel_rfl
  z53 := fun _ => by kernel_rfl
  v53 := fun _ => by kernel_rfl
  i53 := by kernel_rfl
  g0 := by kernel_rfl }

/-- the table of the library's search for the lowest bit stands in its variable -/
def TabW (w : World) : Prop := TabAt 10 Lib.deBruijn32tab w
theorem TabW.below {w w' : World} (h : TabW w) (hb : Below w.heap.size w w') : TabW w' := fun j hj => cell_kept hb (h j hj)
theorem tz32 (x : Nat) (W : World) (hx : x < 4294967296) (hW : TabW W) : Calls Tryd.prog 205 #[.int .u32 x] W (fun e w' => e = .returned (.int .i64 ((Lib.ctz 32 x : Nat) : Int)) ∧ W = w') :=
  (Any7.bits_TrailingZeros32 tzLays x hx W (fun _ => hW)).mono fun e w' ⟨h1, h2⟩ => ⟨h1, h2.symm⟩
end Go.Proofs.YthkmfiipmhlbjaaDoor
