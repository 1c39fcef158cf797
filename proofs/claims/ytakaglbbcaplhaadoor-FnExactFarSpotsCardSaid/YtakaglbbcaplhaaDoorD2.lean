/- Contracts of single functions, and plain lemmas, on which the exact laws of this seat rest; each holds under the conditions that it states. -/
import Derived.Test.YtakaglbbcaplhaaDoorD1
import Derived.Test.YtakaglbbcaplhaaDoorFI
import Derived.Test.YtakaglbbcaplhaaDoorQh
namespace Go.Proofs.YtakaglbbcaplhaaDoor
set_option linter.unusedVariables false
set_option linter.unusedSimpArgs false
open Go.RowKit

def nearB (x y : Int) : Bool := inB x (-1) 16 && inB y (-1) 16
theorem nearB_small {x y : Int} (h : nearB x y = true) : Small x ∧ Small y := by
  unfold nearB inB at h
  unfold Small
  simp at h
  omega
def fsOk (k ax ay bx b_y : Int) : Bool := inB k 0 2 && (nearB ax ay && nearB bx b_y)

theorem l06Kind_any (k : Int) (w : World) : Calls Tryd.prog 93 #[.int .i64 k] w fun e w' => e = .returned (.bool (inB k 0 2)) ∧ w = w' := by
  have C := Lib.hid (l00In_any k 0 2 w)
  obtain ⟨b, hb⟩ : ∃ b, inB k 0 2 = b := ⟨_, rfl⟩
  rw [hb] at C ⊢
  clear hb
  go_enter Tryd.func93, Tryd.ntmps93
  go_wp2_with fail
  refine C.out.mono ?_
  rintro e w' ⟨rfl, rfl⟩
  go_wp2
  go_ret
  exact ⟨rfl, rfl⟩

set_option maxHeartbeats 2000000 in
set_option maxRecDepth 100000 in
theorem l06Near_any (x y : Int) (w : World) : Calls Tryd.prog 94 #[.agg #[.int .i64 x, .int .i64 y]] w fun e w' => e = .returned (.bool (nearB x y)) ∧ Below w.heap.size w w' := by
  have C1 := Lib.hid (fun W => l00In_any x (-1) 16 W)
  have C2 := Lib.hid (fun W => l00In_any y (-1) 16 W)
  have hA := heap_alloc_last w (.cells #[.int .i64 x, .int .i64 y] 31)
  have c0 : (w.alloc (.cells #[.int .i64 x, .int .i64 y] 31)).cell? ⟨w.heap.size, 0, none⟩ = some (.int .i64 x) := by rw [Joins.cell_of_block hA]; rfl
  have c1 : (w.alloc (.cells #[.int .i64 x, .int .i64 y] 31)).cell? ⟨w.heap.size, 1, none⟩ = some (.int .i64 y) := by rw [Joins.cell_of_block hA]; rfl
  have HB := Lib.hid (Joins.below_alloc1 w (.cells #[.int .i64 x, .int .i64 y] 31))
  have HV : Hid (nearB x y = (inB x (-1) 16 && inB y (-1) 16)) := rfl
  obtain ⟨b, hb⟩ : ∃ b, inB x (-1) 16 = b := ⟨_, rfl⟩
  obtain ⟨c, hc⟩ : ∃ c, inB y (-1) 16 = c := ⟨_, rfl⟩
  rw [hb] at C1 HV
  rw [hc] at C2 HV
  clear hb hc hA
  go_enter Tryd.func94, Tryd.ntmps94
  go_wp2_with fail
  refine (C1.out _).mono ?_
  rintro e w' ⟨rfl, rfl⟩
  cases b with
  | false =>
    have HR : Hid (nearB x y = false) := HV.out
    clear HV
    go_wp2_with fail
    go_ret
    exact ⟨ret_bool HR.out.symm, HB.out⟩
  | true =>
    have HR : Hid (nearB x y = c) := HV.out
    clear HV
    go_wp2_with fail
    refine (C2.out _).mono ?_
    rintro e w' ⟨rfl, rfl⟩
    go_wp2_with fail
    go_ret
    exact ⟨ret_bool HR.out.symm, HB.out⟩

set_option maxHeartbeats 2000000 in
set_option maxRecDepth 100000 in
theorem isField_any (x y : Int) (w : World) : Calls Tryd.prog 97 #[.agg #[.int .i64 x, .int .i64 y]] w fun e w' => e = .returned (.bool (nearB x y)) ∧ Below w.heap.size w w' := by
  have hA := heap_alloc_last w (.cells #[.int .i64 x, .int .i64 y] 31)
  have c0 : (w.alloc (.cells #[.int .i64 x, .int .i64 y] 31)).cell? ⟨w.heap.size, 0, none⟩ = some (.int .i64 x) := by rw [Joins.cell_of_block hA]; rfl
  have c1 : (w.alloc (.cells #[.int .i64 x, .int .i64 y] 31)).cell? ⟨w.heap.size, 1, none⟩ = some (.int .i64 y) := by rw [Joins.cell_of_block hA]; rfl
  have HB := Lib.hid (Joins.below_alloc1 w (.cells #[.int .i64 x, .int .i64 y] 31))
  have HV : Hid (nearB x y = decide ((-1 ≤ x ∧ -1 ≤ y) ∧ (x < 17 ∧ y < 17))) := by
    show _ = _
    unfold nearB inB
    rw [Bool.eq_iff_iff]
    simp only [Bool.and_eq_true, decide_eq_true_eq]
    omega
  clear hA
  by_cases h1 : -1 ≤ x ∧ -1 ≤ y
  · by_cases h2 : x < 17 ∧ y < 17
    · have HR : Hid (nearB x y = true) := by show _ = _; rw [HV.out]; exact decide_eq_true ⟨h1, h2⟩
      clear HV
      go_enter Tryd.func97, Tryd.ntmps97
      go_wp2
      all_goals go_ret
      all_goals exact ⟨ret_bool (by rw [HR.out] <;> (first | rfl | (simp; omega))), HB.out⟩
    · have HR : Hid (nearB x y = false) := by show _ = _; rw [HV.out]; exact decide_eq_false (fun h => h2 h.2)
      clear HV
      go_enter Tryd.func97, Tryd.ntmps97
      go_wp2
      all_goals go_ret
      all_goals exact ⟨ret_bool (by rw [HR.out] <;> (first | rfl | (simp; omega))), HB.out⟩
  · have HR : Hid (nearB x y = false) := by show _ = _; rw [HV.out]; exact decide_eq_false (fun h => h1 h.1)
    clear HV
    go_enter Tryd.func97, Tryd.ntmps97
    go_wp2
    all_goals go_ret
    all_goals exact ⟨ret_bool (by rw [HR.out] <;> (first | rfl | (simp; omega))), HB.out⟩
theorem reqKind_yes (k : Int) (w : World) (h : inB k 0 2 = true) : Calls Tryd.prog 98 #[.int .i64 k] w fun e w' => e = .returned (.int .i64 k) ∧ w = w' := by
  have hk : 0 ≤ k ∧ k ≤ 2 := by unfold inB at h; simp at h; omega
  have C := Lib.hid (fun W => require_yes W)
  clear h
  go_enter Tryd.func98, Tryd.ntmps98
  go_wp2_with fail
  refine (C.out _).mono ?_
  rintro e w' ⟨rfl, rfl⟩
  go_wp2
  go_ret
  exact ⟨rfl, rfl⟩
theorem reqKind_no (k : Int) (w : World) (h : inB k 0 2 = false) (hn : NoRes w) : Calls Tryd.prog 98 #[.int .i64 k] w fun e w' => (∃ T x, e = .panicked [{ v := .iface T x, recovered := false }]) ∧ w' = w := by
  have hk : ¬ (0 ≤ k ∧ k ≤ 2) := by unfold inB at h; simp at h; omega
  have C := Lib.hid (require_no w hn)
  clear h hn
  by_cases h0 : 0 ≤ k
  · have h2 : ¬ k ≤ 2 := fun h => hk ⟨h0, h⟩
    clear hk
    go_enter Tryd.func98, Tryd.ntmps98
    go_wp2_with fail
    refine C.out.mono ?_
    rintro e w' ⟨T, x, rfl, rfl⟩
    go_wp2
    exact ⟨rfl, ⟨T, x, rfl⟩, rfl⟩
  · clear hk
    go_enter Tryd.func98, Tryd.ntmps98
    go_wp2_with fail
    refine C.out.mono ?_
    rintro e w' ⟨T, x, rfl, rfl⟩
    go_wp2
    exact ⟨rfl, ⟨T, x, rfl⟩, rfl⟩
end Go.Proofs.YtakaglbbcaplhaaDoor
