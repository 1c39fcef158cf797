/- Contracts of single functions, and plain lemmas, on which the exact laws of this seat rest; each holds under the conditions that it states. -/
import Derived.Test.YtakaglbbcaplhaaDoorD2
import Derived.BigRegion
namespace Go.Proofs.YtakaglbbcaplhaaDoor
set_option linter.unusedVariables false
set_option linter.unusedSimpArgs false
open Go.RowKit
attribute [local go_sem] Oper.semAt_some

def fsV (k ax ay bx b_y : Int) : Int := if fsOk k ax ay bx b_y = true then farI k ax ay bx b_y else 0
/-- a number and a bool -/
def SaysIOk (v : Int) (ok : Bool) (w : World) (e : Ending) (w' : World) : Prop := e = .returned (.tuple #[.int .i64 v, .bool ok]) ∧ Below w.heap.size w w'

set_option maxHeartbeats 4000000 in
set_option maxRecDepth 100000 in
theorem spec_FarSpots (k ax ay bx b_y : Int) (w : World) :
    Calls Tryd.prog 41 #[.int .i64 k, .agg #[.int .i64 ax, .int .i64 ay], .agg #[.int .i64 bx, .int .i64 b_y]] w (SaysIOk (fsV k ax ay bx b_y) (fsOk k ax ay bx b_y) w) := by
  have CK := Lib.hid (fun W => l06Kind_any k W)
  have CA := Lib.hid (fun W => l06Near_any ax ay W)
  have CB := Lib.hid (fun W => l06Near_any bx b_y W)
  have CF : Hid (nearB ax ay = true → nearB bx b_y = true → ∀ W, Calls Tryd.prog 95 #[.int .i64 k, .int .i64 ax, .int .i64 ay, .int .i64 bx, .int .i64 b_y] W fun e w' => e = .returned (.int .i64 (farI k ax ay bx b_y)) ∧ W = w') := fun h1 h2 W => l06Far_any k ax ay bx b_y W (nearB_small h1).1 (nearB_small h1).2 (nearB_small h2).1 (nearB_small h2).2
  have HO : Hid (fsOk k ax ay bx b_y = (inB k 0 2 && (nearB ax ay && nearB bx b_y))) := rfl
  have HV : Hid (fsV k ax ay bx b_y = if fsOk k ax ay bx b_y = true then farI k ax ay bx b_y else 0) := rfl
  obtain ⟨W0, hW0⟩ : ∃ W0, ((w.alloc (.cells #[.int .i64 ax, .int .i64 ay] 31)).alloc (.cells #[.int .i64 bx, .int .i64 b_y] 31)) = W0 := ⟨_, rfl⟩
  have b0 : Below w.heap.size w W0 := by rw [← hW0]; exact Joins.below_alloc2 _ _ _
  have hs0 : W0.heap.size = w.heap.size + 1 + 1 := by rw [← hW0]; simp
  have hp0 : W0.heap[w.heap.size]? = some (.cells #[.int .i64 ax, .int .i64 ay] 31 (0, 0)) := by
    rw [← hW0, Below.heap_alloc _ _ _ (by simp)]; exact heap_alloc_last w _
  have hr0 : W0.heap[w.heap.size + 1]? = some (.cells #[.int .i64 bx, .int .i64 b_y] 31 (0, 0)) := by
    rw [← hW0]
    exact heap_alloc2_new _ _ _
  have HC : Hid (∀ W, Below W0.heap.size W0 W → (W.cell? ⟨w.heap.size, 0, none⟩ = some (.int .i64 ax) ∧ W.cell? ⟨w.heap.size, 1, none⟩ = some (.int .i64 ay)) ∧ W.cell? ⟨w.heap.size + 1, 0, none⟩ = some (.int .i64 bx) ∧ W.cell? ⟨w.heap.size + 1, 1, none⟩ = some (.int .i64 b_y)) := fun W hb =>
    ⟨⟨cell_kept hb (by rw [Joins.cell_of_block hp0 0]; rfl), cell_kept hb (by rw [Joins.cell_of_block hp0 1]; rfl)⟩, cell_kept hb (by rw [Joins.cell_of_block hr0 0]; rfl), cell_kept hb (by rw [Joins.cell_of_block hr0 1]; rfl)⟩
  have B0 := Lib.hid b0
  have HW := Lib.hid hW0
  obtain ⟨d, hd⟩ : ∃ d, farI k ax ay bx b_y = d := ⟨_, rfl⟩
  rw [hd] at CF HV
  obtain ⟨kb, hkb⟩ : ∃ b, inB k 0 2 = b := ⟨_, rfl⟩
  obtain ⟨na, hna⟩ : ∃ b, nearB ax ay = b := ⟨_, rfl⟩
  obtain ⟨nb, hnb⟩ : ∃ b, nearB bx b_y = b := ⟨_, rfl⟩
  rw [hkb] at CK HO
  rw [hna] at CA CF HO
  rw [hnb] at CB CF HO
  have l0 : w.heap.size + 1 < W0.heap.size := by omega
  have cA := (HC.out W0 (Below.refl _ _)).1
  have cA0 := cA.1
  have cA1 := cA.2
  clear b0 hW0 hp0 hr0 hd hkb hna hnb cA hs0
  go_enter Tryd.func41, Tryd.ntmps41
  go_wp2_with fail
  rw [HW.out]
  refine (CK.out _).mono ?_
  rintro e w' ⟨rfl, rfl⟩
  cases kb with
  | false =>
    have HR : Hid (fsOk k ax ay bx b_y = false) := HO.out
    have HR2 : Hid (fsV k ax ay bx b_y = 0) := by show _ = _; rw [HV.out, HR.out]; rfl
    clear HO HV CA CB CF
    go_wp2_with fail
    go_ret2
    rw [HR.out, HR2.out]
    exact ⟨rfl, B0.out⟩
  | true =>
    go_wp2_with fail
    refine (CA.out _).mono ?_
    rintro e w1 ⟨rfl, hb1⟩
    have V1 := Lib.hid hb1
    have B1 := Lib.hid (B0.out.trans (hb1.mono B0.out.size))
    have l1 : w.heap.size + 1 < w1.heap.size := Nat.lt_of_lt_of_le l0 hb1.size
    have cB := (HC.out w1 hb1).2
    have cB0 := cB.1
    have cB1 := cB.2
    clear hb1 cA0 cA1 cB
    cases na with
    | false =>
      have HR : Hid (fsOk k ax ay bx b_y = false) := HO.out
      have HR2 : Hid (fsV k ax ay bx b_y = 0) := by show _ = _; rw [HV.out, HR.out]; rfl
      clear HO HV CB CF
      go_wp2_with fail
      go_ret2
      rw [HR.out, HR2.out]
      exact ⟨rfl, B1.out⟩
    | true =>
      go_wp2_with fail
      refine (CB.out _).mono ?_
      rintro e w2 ⟨rfl, hb2⟩
      have B2 := Lib.hid (B1.out.trans (hb2.mono B1.out.size))
      have l2 : w.heap.size + 1 < w2.heap.size := Nat.lt_of_lt_of_le l1 hb2.size
      have cc := HC.out w2 (V1.out.trans (hb2.mono V1.out.size))
      have cA0 := cc.1.1
      have cA1 := cc.1.2
      have cC0 := cc.2.1
      have cC1 := cc.2.2
      clear hb2 cB0 cB1 cc
      cases nb with
      | false =>
        have HR : Hid (fsOk k ax ay bx b_y = false) := HO.out
        have HR2 : Hid (fsV k ax ay bx b_y = 0) := by show _ = _; rw [HV.out, HR.out]; rfl
        clear HO HV CF
        go_wp2_with fail
        go_ret2
        rw [HR.out, HR2.out]
        exact ⟨rfl, B2.out⟩
      | true =>
        have HR : Hid (fsOk k ax ay bx b_y = true) := HO.out
        have HR2 : Hid (fsV k ax ay bx b_y = d) := by show _ = _; rw [HV.out, HR.out]; rfl
        have CF2 := Lib.hid (CF.out (by trivial) (by trivial))
        clear HO HV CF
        go_wp2_with fail
        refine (CF2.out _).mono ?_
        rintro e w3 ⟨rfl, rfl⟩
        have HB := B2
        go_wp2_with fail
        go_ret2
        rw [HR.out, HR2.out]
        exact ⟨rfl, HB.out⟩
end Go.Proofs.YtakaglbbcaplhaaDoor
