/- Contracts of single functions, and plain lemmas, on which the exact laws of this seat rest; each holds under the conditions that it states. -/
import Derived.Test.YtakaglbbcaplhaaDoorD1
import Derived.Test.YtakaglbbcaplhaaDoorFI
import Derived.Test.YtakaglbbcaplhaaDoorQh
import Derived.BigRegion
namespace Go.Proofs.YtakaglbbcaplhaaDoor
set_option linter.unusedVariables false
set_option linter.unusedSimpArgs false
open Go.RowKit

def nearB (x y : Int) : Bool := inB x (-1) 16 && inB y (-1) 16
theorem nearB_small {x y : Int} (h : nearB x y = true) : Small x ∧ Small y := by
  unfold nearB inB at h
  unfold Small
  simp at h
  omega
def fsOk (k ax ay bx b_y : Int) : Bool := inB k 0 2 && (nearB ax ay && nearB bx b_y)

theorem l06Kind_any (k : Int) (w : World) : Calls Tryd.prog 93 #[.int .i64 k] w fun e w' => e = .returned (.bool (inB k 0 2)) ∧ w = w' := by
  have C := Lib.hid (l00In_any k 0 2 w)
  obtain ⟨b, hb⟩ : ∃ b, inB k 0 2 = b := ⟨_, rfl⟩
  rw [hb] at C ⊢
  clear hb
  go_enter Tryd.func93, Tryd.ntmps93
  go_wp2_with fail
  refine C.out.mono ?_
  rintro e w' ⟨rfl, rfl⟩
  go_wp2
  go_ret
  exact ⟨rfl, rfl⟩

set_option maxHeartbeats 2000000 in
set_option maxRecDepth 100000 in
theorem l06Near_any (x y : Int) (w : World) : Calls Tryd.prog 94 #[.agg #[.int .i64 x, .int .i64 y]] w fun e w' => e = .returned (.bool (nearB x y)) ∧ Below w.heap.size w w' := by
  have C1 := Lib.hid (fun W => l00In_any x (-1) 16 W)
  have C2 := Lib.hid (fun W => l00In_any y (-1) 16 W)
  have hA := heap_alloc_last w (.cells #[.int .i64 x, .int .i64 y] 31)
  have c0 : (w.alloc (.cells #[.int .i64 x, .int .i64 y] 31)).cell? ⟨w.heap.size, 0, none⟩ = some (.int .i64 x) := by rw [Joins.cell_of_block hA]; rfl
  have c1 : (w.alloc (.cells #[.int .i64 x, .int .i64 y] 31)).cell? ⟨w.heap.size, 1, none⟩ = some (.int .i64 y) := by rw [Joins.cell_of_block hA]; rfl
  have HB := Lib.hid (Joins.below_alloc1 w (.cells #[.int .i64 x, .int .i64 y] 31))
  have HV : Hid (nearB x y = (inB x (-1) 16 && inB y (-1) 16)) := rfl
  obtain ⟨b, hb⟩ : ∃ b, inB x (-1) 16 = b := ⟨_, rfl⟩
  obtain ⟨c, hc⟩ : ∃ c, inB y (-1) 16 = c := ⟨_, rfl⟩
  rw [hb] at C1 HV
  rw [hc] at C2 HV
  clear hb hc hA
  go_enter Tryd.func94, Tryd.ntmps94
  go_wp2_with fail
  refine (C1.out _).mono ?_
  rintro e w' ⟨rfl, rfl⟩
  cases b with
  | false =>
    have HR : Hid (nearB x y = false) := HV.out
    clear HV
    go_wp2_with fail
    go_ret
    exact ⟨ret_bool HR.out.symm, HB.out⟩
  | true =>
    have HR : Hid (nearB x y = c) := HV.out
    clear HV
    go_wp2_with fail
    refine (C2.out _).mono ?_
    rintro e w' ⟨rfl, rfl⟩
    go_wp2_with fail
    go_ret
    exact ⟨ret_bool HR.out.symm, HB.out⟩

set_option maxHeartbeats 2000000 in
set_option maxRecDepth 100000 in
theorem isField_any (x y : Int) (w : World) : Calls Tryd.prog 97 #[.agg #[.int .i64 x, .int .i64 y]] w fun e w' => e = .returned (.bool (nearB x y)) ∧ Below w.heap.size w w' := by
  have hA := heap_alloc_last w (.cells #[.int .i64 x, .int .i64 y] 31)
  have c0 : (w.alloc (.cells #[.int .i64 x, .int .i64 y] 31)).cell? ⟨w.heap.size, 0, none⟩ = some (.int .i64 x) := by rw [Joins.cell_of_block hA]; rfl
  have c1 : (w.alloc (.cells #[.int .i64 x, .int .i64 y] 31)).cell? ⟨w.heap.size, 1, none⟩ = some (.int .i64 y) := by rw [Joins.cell_of_block hA]; rfl
  have HB := Lib.hid (Joins.below_alloc1 w (.cells #[.int .i64 x, .int .i64 y] 31))
  have HV : Hid (nearB x y = decide ((-1 ≤ x ∧ -1 ≤ y) ∧ (x < 17 ∧ y < 17))) := by
    show _ = _
    unfold nearB inB
    rw [Bool.eq_iff_iff]
    simp only [Bool.and_eq_true, decide_eq_true_eq]
    omega
  clear hA
  by_cases h1 : -1 ≤ x ∧ -1 ≤ y
  · by_cases h2 : x < 17 ∧ y < 17
    · have HR : Hid (nearB x y = true) := by show _ = _; rw [HV.out]; exact decide_eq_true ⟨h1, h2⟩
      clear HV
      go_enter Tryd.func97, Tryd.ntmps97
      go_wp2
      all_goals go_ret
      all_goals exact ⟨ret_bool (by rw [HR.out] <;> (first | rfl | (simp; omega))), HB.out⟩
    · have HR : Hid (nearB x y = false) := by show _ = _; rw [HV.out]; exact decide_eq_false (fun h => h2 h.2)
      clear HV
      go_enter Tryd.func97, Tryd.ntmps97
      go_wp2
      all_goals go_ret
      all_goals exact ⟨ret_bool (by rw [HR.out] <;> (first | rfl | (simp; omega))), HB.out⟩
  · have HR : Hid (nearB x y = false) := by show _ = _; rw [HV.out]; exact decide_eq_false (fun h => h1 h.1)
    clear HV
    go_enter Tryd.func97, Tryd.ntmps97
    go_wp2
    all_goals go_ret
    all_goals exact ⟨ret_bool (by rw [HR.out] <;> (first | rfl | (simp; omega))), HB.out⟩
theorem reqKind_yes (k : Int) (w : World) (h : inB k 0 2 = true) : Calls Tryd.prog 98 #[.int .i64 k] w fun e w' => e = .returned (.int .i64 k) ∧ w = w' := by
  have hk : 0 ≤ k ∧ k ≤ 2 := by unfold inB at h; simp at h; omega
  have C := Lib.hid (fun W => require_yes W)
  clear h
  go_enter Tryd.func98, Tryd.ntmps98
  go_wp2_with fail
  refine (C.out _).mono ?_
  rintro e w' ⟨rfl, rfl⟩
  go_wp2
  go_ret
  exact ⟨rfl, rfl⟩
theorem reqKind_no (k : Int) (w : World) (h : inB k 0 2 = false) (hn : NoRes w) : Calls Tryd.prog 98 #[.int .i64 k] w fun e w' => (∃ T x, e = .panicked [{ v := .iface T x, recovered := false }]) ∧ w' = w := by
  have hk : ¬ (0 ≤ k ∧ k ≤ 2) := by unfold inB at h; simp at h; omega
  have C := Lib.hid (require_no w hn)
  clear h hn
  by_cases h0 : 0 ≤ k
  · have h2 : ¬ k ≤ 2 := fun h => hk ⟨h0, h⟩
    clear hk
    go_enter Tryd.func98, Tryd.ntmps98
    go_wp2_with fail
    refine C.out.mono ?_
    rintro e w' ⟨T, x, rfl, rfl⟩
    go_wp2
    exact ⟨rfl, ⟨T, x, rfl⟩, rfl⟩
  · clear hk
    go_enter Tryd.func98, Tryd.ntmps98
    go_wp2_with fail
    refine C.out.mono ?_
    rintro e w' ⟨T, x, rfl, rfl⟩
    go_wp2
    exact ⟨rfl, ⟨T, x, rfl⟩, rfl⟩
end Go.Proofs.YtakaglbbcaplhaaDoor

/- Contracts of single functions, and plain lemmas, on which the exact laws of this seat rest; each holds under the conditions that it states. -/
namespace Go.Proofs.YtakaglbbcaplhaaDoor
set_option linter.unusedVariables false
set_option linter.unusedSimpArgs false
open Go.RowKit
attribute [local go_sem] Oper.semAt_some

def fsV (k ax ay bx b_y : Int) : Int := if fsOk k ax ay bx b_y = true then farI k ax ay bx b_y else 0
/-- a number and a bool -/
def SaysIOk (v : Int) (ok : Bool) (w : World) (e : Ending) (w' : World) : Prop := e = .returned (.tuple #[.int .i64 v, .bool ok]) ∧ Below w.heap.size w w'

set_option maxHeartbeats 4000000 in
set_option maxRecDepth 100000 in
theorem spec_FarSpots (k ax ay bx b_y : Int) (w : World) :
    Calls Tryd.prog 41 #[.int .i64 k, .agg #[.int .i64 ax, .int .i64 ay], .agg #[.int .i64 bx, .int .i64 b_y]] w (SaysIOk (fsV k ax ay bx b_y) (fsOk k ax ay bx b_y) w) := by
  have CK := Lib.hid (fun W => l06Kind_any k W)
  have CA := Lib.hid (fun W => l06Near_any ax ay W)
  have CB := Lib.hid (fun W => l06Near_any bx b_y W)
  have CF : Hid (nearB ax ay = true → nearB bx b_y = true → ∀ W, Calls Tryd.prog 95 #[.int .i64 k, .int .i64 ax, .int .i64 ay, .int .i64 bx, .int .i64 b_y] W fun e w' => e = .returned (.int .i64 (farI k ax ay bx b_y)) ∧ W = w') := fun h1 h2 W => l06Far_any k ax ay bx b_y W (nearB_small h1).1 (nearB_small h1).2 (nearB_small h2).1 (nearB_small h2).2
  have HO : Hid (fsOk k ax ay bx b_y = (inB k 0 2 && (nearB ax ay && nearB bx b_y))) := rfl
  have HV : Hid (fsV k ax ay bx b_y = if fsOk k ax ay bx b_y = true then farI k ax ay bx b_y else 0) := rfl
  obtain ⟨W0, hW0⟩ : ∃ W0, ((w.alloc (.cells #[.int .i64 ax, .int .i64 ay] 31)).alloc (.cells #[.int .i64 bx, .int .i64 b_y] 31)) = W0 := ⟨_, rfl⟩
  have b0 : Below w.heap.size w W0 := by rw [← hW0]; exact Joins.below_alloc2 _ _ _
  have hs0 : W0.heap.size = w.heap.size + 1 + 1 := by rw [← hW0]; simp
  have hp0 : W0.heap[w.heap.size]? = some (.cells #[.int .i64 ax, .int .i64 ay] 31 (0, 0)) := by
    rw [← hW0, Below.heap_alloc _ _ _ (by simp)]; exact heap_alloc_last w _
  have hr0 : W0.heap[w.heap.size + 1]? = some (.cells #[.int .i64 bx, .int .i64 b_y] 31 (0, 0)) := by
    rw [← hW0]
    exact heap_alloc2_new _ _ _
  have HC : Hid (∀ W, Below W0.heap.size W0 W → (W.cell? ⟨w.heap.size, 0, none⟩ = some (.int .i64 ax) ∧ W.cell? ⟨w.heap.size, 1, none⟩ = some (.int .i64 ay)) ∧ W.cell? ⟨w.heap.size + 1, 0, none⟩ = some (.int .i64 bx) ∧ W.cell? ⟨w.heap.size + 1, 1, none⟩ = some (.int .i64 b_y)) := fun W hb =>
    ⟨⟨cell_kept hb (by rw [Joins.cell_of_block hp0 0]; rfl), cell_kept hb (by rw [Joins.cell_of_block hp0 1]; rfl)⟩, cell_kept hb (by rw [Joins.cell_of_block hr0 0]; rfl), cell_kept hb (by rw [Joins.cell_of_block hr0 1]; rfl)⟩
  have B0 := Lib.hid b0
  have HW := Lib.hid hW0
  obtain ⟨d, hd⟩ : ∃ d, farI k ax ay bx b_y = d := ⟨_, rfl⟩
  rw [hd] at CF HV
  obtain ⟨kb, hkb⟩ : ∃ b, inB k 0 2 = b := ⟨_, rfl⟩
  obtain ⟨na, hna⟩ : ∃ b, nearB ax ay = b := ⟨_, rfl⟩
  obtain ⟨nb, hnb⟩ : ∃ b, nearB bx b_y = b := ⟨_, rfl⟩
  rw [hkb] at CK HO
  rw [hna] at CA CF HO
  rw [hnb] at CB CF HO
  have l0 : w.heap.size + 1 < W0.heap.size := by omega
  have cA := (HC.out W0 (Below.refl _ _)).1
  have cA0 := cA.1
  have cA1 := cA.2
  clear b0 hW0 hp0 hr0 hd hkb hna hnb cA hs0
  go_enter Tryd.func41, Tryd.ntmps41
  go_wp2_with fail
  rw [HW.out]
  refine (CK.out _).mono ?_
  rintro e w' ⟨rfl, rfl⟩
  cases kb with
  | false =>
    have HR : Hid (fsOk k ax ay bx b_y = false) := HO.out
    have HR2 : Hid (fsV k ax ay bx b_y = 0) := by show _ = _; rw [HV.out, HR.out]; rfl
    clear HO HV CA CB CF
    go_wp2_with fail
    go_ret2
    rw [HR.out, HR2.out]
    exact ⟨rfl, B0.out⟩
  | true =>
    go_wp2_with fail
    refine (CA.out _).mono ?_
    rintro e w1 ⟨rfl, hb1⟩
    have V1 := Lib.hid hb1
    have B1 := Lib.hid (B0.out.trans (hb1.mono B0.out.size))
    have l1 : w.heap.size + 1 < w1.heap.size := Nat.lt_of_lt_of_le l0 hb1.size
    have cB := (HC.out w1 hb1).2
    have cB0 := cB.1
    have cB1 := cB.2
    clear hb1 cA0 cA1 cB
    cases na with
    | false =>
      have HR : Hid (fsOk k ax ay bx b_y = false) := HO.out
      have HR2 : Hid (fsV k ax ay bx b_y = 0) := by show _ = _; rw [HV.out, HR.out]; rfl
      clear HO HV CB CF
      go_wp2_with fail
      go_ret2
      rw [HR.out, HR2.out]
      exact ⟨rfl, B1.out⟩
    | true =>
      go_wp2_with fail
      refine (CB.out _).mono ?_
      rintro e w2 ⟨rfl, hb2⟩
      have B2 := Lib.hid (B1.out.trans (hb2.mono B1.out.size))
      have l2 : w.heap.size + 1 < w2.heap.size := Nat.lt_of_lt_of_le l1 hb2.size
      have cc := HC.out w2 (V1.out.trans (hb2.mono V1.out.size))
      have cA0 := cc.1.1
      have cA1 := cc.1.2
      have cC0 := cc.2.1
      have cC1 := cc.2.2
      clear hb2 cB0 cB1 cc
      cases nb with
      | false =>
        have HR : Hid (fsOk k ax ay bx b_y = false) := HO.out
        have HR2 : Hid (fsV k ax ay bx b_y = 0) := by show _ = _; rw [HV.out, HR.out]; rfl
        clear HO HV CF
        go_wp2_with fail
        go_ret2
        rw [HR.out, HR2.out]
        exact ⟨rfl, B2.out⟩
      | true =>
        have HR : Hid (fsOk k ax ay bx b_y = true) := HO.out
        have HR2 : Hid (fsV k ax ay bx b_y = d) := by show _ = _; rw [HV.out, HR.out]; rfl
        have CF2 := Lib.hid (CF.out (by trivial) (by trivial))
        clear HO HV CF
        go_wp2_with fail
        refine (CF2.out _).mono ?_
        rintro e w3 ⟨rfl, rfl⟩
        have HB := B2
        go_wp2_with fail
        go_ret2
        rw [HR.out, HR2.out]
        exact ⟨rfl, HB.out⟩
end Go.Proofs.YtakaglbbcaplhaaDoor
