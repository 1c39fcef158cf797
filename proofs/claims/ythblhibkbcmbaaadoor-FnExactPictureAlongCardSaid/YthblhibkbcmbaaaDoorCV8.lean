/- Contracts of single functions, and plain lemmas, on which the exact laws of this seat rest; each holds under the conditions that it states. -/
import Derived.Test.YthblhibkbcmbaaaDoorCV7
import Derived.Test.YthblhibkbcmbaaaDoorR1
import Derived.Test.YthblhibkbcmbaaaDoorD3
import Derived.BigRegion
namespace Go.Proofs.YthblhibkbcmbaaaDoor
set_option linter.unusedVariables false
set_option linter.unusedSimpArgs false
open Go.RowKit
attribute [local go_sem] Oper.semAt_some

def ixOk (c n x y : Int) : Bool := (inB c 0 3 && inB n 0 4) && (inB x 0 (sd n - 1) && inB y 0 (sd n - 1))
def ixV (c n x y : Int) : Int := if ixOk c n x y = true then ixS c.toNat n.toNat x.toNat y.toNat else 0
/-- the four numbers in variables -/
def IxAt (W : World) (pc pn px py : Nat) (c n x y : Int) : Prop :=
  W.cell? ⟨pc, 0, none⟩ = some (.int .i64 c) ∧ W.cell? ⟨pn, 0, none⟩ = some (.int .i64 n) ∧ W.cell? ⟨px, 0, none⟩ = some (.int .i64 x) ∧ W.cell? ⟨py, 0, none⟩ = some (.int .i64 y)
theorem IxAt.kept {w W : World} {pc pn px py : Nat} {c n x y : Int} (h : IxAt w pc pn px py c n x y) (hb : Below w.heap.size w W) : IxAt W pc pn px py c n x y :=
  ⟨cell_kept hb h.1, cell_kept hb h.2.1, cell_kept hb h.2.2.1, cell_kept hb h.2.2.2⟩
theorem inB_le {x a b : Int} (h : inB x a b = true) : a ≤ x ∧ x ≤ b := by
  unfold inB at h
  simpa using h
/-- what is known of four numbers that have an index -/
theorem ix_nat {c n x y : Int} (h : ixOk c n x y = true) : ∃ c' n' x' y' : Nat, c = c' ∧ n = n' ∧ x = x' ∧ y = y' ∧ c' < 4 ∧ n' ≤ 4 ∧ x' < 2 ^ n' ∧ y' < 2 ^ n' := by
  unfold ixOk at h
  simp only [Bool.and_eq_true] at h
  obtain ⟨⟨h1, h2⟩, h3, h4⟩ := h
  have h1 := inB_le h1
  have h2 := inB_le h2
  have h3 := inB_le h3
  have h4 := inB_le h4
  obtain ⟨n', rfl⟩ : ∃ k : Nat, n = k := ⟨n.toNat, by omega⟩
  rw [sd_nat] at h3 h4
  exact ⟨c.toNat, n', x.toNat, y.toNat, by omega, rfl, by omega, by omega, by omega, by omega, by omega, by omega⟩

end Go.Proofs.YthblhibkbcmbaaaDoor
