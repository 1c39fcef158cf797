/- Contracts of single functions, and plain lemmas, on which the exact laws of this seat rest; each holds under the conditions that it states. -/
import Derived.Test.YtaopdhncapoefaaDoorR3
namespace Go.Proofs.YtaopdhncapoefaaDoor
set_option linter.unusedVariables false
set_option linter.unusedSimpArgs false
open Go.RowKit

/-- does a border lead from a corner in a direction -/
def ledB (p : Int → Int → Bool) (x y : Int) (d : Nat) : Bool := crV p x y d && !crV p x y ((d + 3) % 4)

set_option maxHeartbeats 2000000 in
set_option maxRecDepth 100000 in
theorem leads_any (p : Int → Int → Bool) (x y : Int) (d : Nat) (w : World) (hd : d < 4) :
    Calls Tryd.prog 59 #[.agg (crS p x y 4), .int .i64 d] w (fun e w' => e = .returned (.bool (ledB p x y d)) ∧ Below w.heap.size w w') := by
  have h : ∀ b0 b1 b2 b3 : Bool, Calls Tryd.prog 59 #[.agg #[.bool b0, .bool b1, .bool b2, .bool b3], .int .i64 d] w (fun e w' => e = .returned (.bool ((if d = 0 then b0 else if d = 1 then b1 else if d = 2 then b2 else b3) && !(if d = 0 then b3 else if d = 1 then b0 else if d = 2 then b1 else b2))) ∧ Below w.heap.size w w') := by
    intro b0 b1 b2 b3
    have HB := Lib.hid (Joins.below_alloc1 w (.cells #[.bool b0, .bool b1, .bool b2, .bool b3] 68))
    have hA := heap_alloc_last w (.cells #[.bool b0, .bool b1, .bool b2, .bool b3] 68)
    have c0 : (w.alloc (.cells #[.bool b0, .bool b1, .bool b2, .bool b3] 68)).cell? ⟨w.heap.size, 0, none⟩ = some (.bool b0) := by rw [Joins.cell_of_block hA 0]; rfl
    have c1 : (w.alloc (.cells #[.bool b0, .bool b1, .bool b2, .bool b3] 68)).cell? ⟨w.heap.size, 1, none⟩ = some (.bool b1) := by rw [Joins.cell_of_block hA 1]; rfl
    have c2 : (w.alloc (.cells #[.bool b0, .bool b1, .bool b2, .bool b3] 68)).cell? ⟨w.heap.size, 2, none⟩ = some (.bool b2) := by rw [Joins.cell_of_block hA 2]; rfl
    have c3 : (w.alloc (.cells #[.bool b0, .bool b1, .bool b2, .bool b3] 68)).cell? ⟨w.heap.size, 3, none⟩ = some (.bool b3) := by rw [Joins.cell_of_block hA 3]; rfl
    clear hA
    rcases (by omega : d = 0 ∨ d = 1 ∨ d = 2 ∨ d = 3) with rfl | rfl | rfl | rfl
    · cases b0 with
      | true =>
        go_enter Tryd.func59, Tryd.ntmps59
        go_wp2
        go_ret
        exact ⟨by simp, HB.out⟩
      | false =>
        go_enter Tryd.func59, Tryd.ntmps59
        go_wp2
        go_ret
        exact ⟨by simp, HB.out⟩
    · cases b1 with
      | true =>
        go_enter Tryd.func59, Tryd.ntmps59
        go_wp2
        go_ret
        exact ⟨by simp, HB.out⟩
      | false =>
        go_enter Tryd.func59, Tryd.ntmps59
        go_wp2
        go_ret
        exact ⟨by simp, HB.out⟩
    · cases b2 with
      | true =>
        go_enter Tryd.func59, Tryd.ntmps59
        go_wp2
        go_ret
        exact ⟨by simp, HB.out⟩
      | false =>
        go_enter Tryd.func59, Tryd.ntmps59
        go_wp2
        go_ret
        exact ⟨by simp, HB.out⟩
    · cases b3 with
      | true =>
        go_enter Tryd.func59, Tryd.ntmps59
        go_wp2
        go_ret
        exact ⟨by simp, HB.out⟩
      | false =>
        go_enter Tryd.func59, Tryd.ntmps59
        go_wp2
        go_ret
        exact ⟨by simp, HB.out⟩
  have h' := h (crV p x y 0) (crV p x y 1) (crV p x y 2) (crV p x y 3)
  have e1 : (if d = 0 then crV p x y 0 else if d = 1 then crV p x y 1 else if d = 2 then crV p x y 2 else crV p x y 3) = crV p x y d := by
    rcases (by omega : d = 0 ∨ d = 1 ∨ d = 2 ∨ d = 3) with rfl | rfl | rfl | rfl <;> rfl
  have e2 : (if d = 0 then crV p x y 3 else if d = 1 then crV p x y 0 else if d = 2 then crV p x y 1 else crV p x y 2) = crV p x y ((d + 3) % 4) := by
    rcases (by omega : d = 0 ∨ d = 1 ∨ d = 2 ∨ d = 3) with rfl | rfl | rfl | rfl <;> rfl
  rw [e1, e2] at h'
  exact h'
end Go.Proofs.YtaopdhncapoefaaDoor
