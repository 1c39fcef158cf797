/- Contracts of single functions, and plain lemmas, on which the exact laws of this seat rest; each holds under the conditions that it states. -/
import Derived.Test.YthblhibkbcmbaaaDoorCVE
import Derived.Test.YthblhibkbcmbaaaDoorCV2
import Derived.Test.YthblhibkbcmbaaaDoorCV5
import Derived.Test.YthblhibkbcmbaaaDoorCVH
import Derived.Deep.RegionHeld3
import Derived.Deep.DeepCutAuto
namespace Go.Proofs.YthblhibkbcmbaaaDoor
set_option linter.unusedVariables false
set_option linter.unusedSimpArgs false
open Go.RowKit
attribute [local go_sem] Oper.semAt_some

/-! ### the next index in a box -/
def inBx (ax ay bx b_y : Int) (p : Int × Int) : Bool := inB p.1 ax bx && inB p.2 ay b_y
def nxO (f : Nat → Bool) (N s : Nat) : Option Nat := (List.range N).find? fun j => f j && decide (s ≤ j)
theorem nxO_some {f : Nat → Bool} {N s i : Nat} (hi : i < N) (hs : s ≤ i) (hf : f i = true) (hb : ∀ j, s ≤ j → j < i → f j = false) : nxO f N s = some i := by
  unfold nxO
  rw [List.find?_range_eq_some]
  refine ⟨by simp [hf, hs], List.mem_range.2 hi, fun j hj => ?_⟩
  by_cases h : s ≤ j
  · simp [hb j h hj]
  · simp [h]
theorem nxO_none {f : Nat → Bool} {N s : Nat} (hb : ∀ j, s ≤ j → j < N → f j = false) : nxO f N s = none := by
  unfold nxO
  rw [List.find?_range_eq_none]
  intro j hj
  by_cases h : s ≤ j
  · simp [hb j h hj]
  · simp [h]
def bxF (c n : Nat) (ax ay bx b_y : Int) (i : Nat) : Bool := inBx ax ay bx b_y ((cvF c n).getD i (0, 0))
def nbP (c n ax ay bx b_y i : Int) : Bool := (inB c 0 3 && inB n 0 4) && (boxOk n ax ay bx b_y && inB i 0 (sd n * sd n - 1))
def nbO (c n ax ay bx b_y i : Int) : Option Nat := if nbP c n ax ay bx b_y i = true then nxO (bxF c.toNat n.toNat ax ay bx b_y) (cvF c.toNat n.toNat).length i.toNat else none

/-- the two spots of the call in variables -/
structure Bx2 (w W0 : World) (p q : Nat) (ax ay bx b_y : Int) : Prop where
  cells : ∀ W, Below W0.heap.size W0 W → W.cell? ⟨p, 0, none⟩ = some (.int .i64 ax) ∧ W.cell? ⟨p, 1, none⟩ = some (.int .i64 ay) ∧ W.cell? ⟨q, 0, none⟩ = some (.int .i64 bx) ∧ W.cell? ⟨q, 1, none⟩ = some (.int .i64 b_y)

end Go.Proofs.YthblhibkbcmbaaaDoor

/- Contracts of single functions, and plain lemmas, on which the exact laws of this seat rest; each holds under the conditions that it states. -/
namespace Go.Proofs.YthblhibkbcmbaaaDoor
set_option linter.unusedVariables false
set_option linter.unusedSimpArgs false
open Go.RowKit
attribute [local go_sem] Oper.semAt_some

/-! ### the indices of a box -/
def ixsV (f : Nat → Bool) (k : Nat) : List Int := ((List.range k).filter f).map fun (i : Nat) => (i : Int)
theorem ixsV_yes {f : Nat → Bool} {k : Nat} (h : f k = true) : ixsV f (k + 1) = ixsV f k ++ [(k : Int)] := by
  unfold ixsV
  rw [List.range_succ, List.filter_append, List.map_append]
  simp [h]
theorem ixsV_no {f : Nat → Bool} {k : Nat} (h : f k = false) : ixsV f (k + 1) = ixsV f k := by
  unfold ixsV
  rw [List.range_succ, List.filter_append, List.map_append]
  simp [h]
theorem ixsV_len (f : Nat → Bool) (k : Nat) : (ixsV f k).length ≤ k := by
  unfold ixsV
  rw [List.length_map]
  have := List.length_filter_le f (List.range k)
  simpa using this

end Go.Proofs.YthblhibkbcmbaaaDoor
