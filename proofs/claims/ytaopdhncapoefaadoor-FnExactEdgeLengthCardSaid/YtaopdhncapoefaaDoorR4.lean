/- Contracts of single functions, and plain lemmas, on which the exact laws of this seat rest; each holds under the conditions that it states. -/
import Derived.Test.YtaopdhncapoefaaDoorR3
namespace Go.Proofs.YtaopdhncapoefaaDoor
set_option linter.unusedVariables false
set_option linter.unusedSimpArgs false
open Go.RowKit

/-- how many of the first k pixels of a quad are black -/
def cntQ (b0 b1 b2 b3 : Bool) : Nat → Nat
  | 0 => 0
  | 1 => b0.toNat
  | 2 => b0.toNat + b1.toNat
  | 3 => b0.toNat + b1.toNat + b2.toNat
  | _ => b0.toNat + b1.toNat + b2.toNat + b3.toNat
theorem cntQ_le (b0 b1 b2 b3 : Bool) (k : Nat) : cntQ b0 b1 b2 b3 k ≤ 4 := by
  have h0 := Bool.toNat_le b0
  have h1 := Bool.toNat_le b1
  have h2 := Bool.toNat_le b2
  have h3 := Bool.toNat_le b3
  unfold cntQ
  split <;> omega
/-- the kind of a quad: none, one, three, across -/
def kdN (b0 b1 b2 b3 : Bool) : Nat :=
  if cntQ b0 b1 b2 b3 4 = 1 then 1 else if cntQ b0 b1 b2 b3 4 = 3 then 2 else if cntQ b0 b1 b2 b3 4 = 2 ∧ b0 = b2 then 3 else 0
theorem kdN_le (b0 b1 b2 b3 : Bool) : kdN b0 b1 b2 b3 ≤ 3 := by
  unfold kdN
  split
  · omega
  · split
    · omega
    · split <;> omega
section
variable (b0 b1 b2 b3 : Bool) (w : World)
theorem ixq0 : (Instr.index 68 (.agg #[.bool b0, .bool b1, .bool b2, .bool b3]) (.int .i64 0)).run Tryd.prog w = .ok (.bool b0) w := by kernel_rfl
theorem ixq1 : (Instr.index 68 (.agg #[.bool b0, .bool b1, .bool b2, .bool b3]) (.int .i64 1)).run Tryd.prog w = .ok (.bool b1) w := by kernel_rfl
theorem ixq2 : (Instr.index 68 (.agg #[.bool b0, .bool b1, .bool b2, .bool b3]) (.int .i64 2)).run Tryd.prog w = .ok (.bool b2) w := by kernel_rfl
theorem ixq3 : (Instr.index 68 (.agg #[.bool b0, .bool b1, .bool b2, .bool b3]) (.int .i64 3)).run Tryd.prog w = .ok (.bool b3) w := by kernel_rfl
end

set_option maxHeartbeats 4000000 in
set_option maxRecDepth 100000 in
theorem quadKind_any (b0 b1 b2 b3 : Bool) (w : World) :
    Calls Tryd.prog 43 #[.agg #[.bool b0, .bool b1, .bool b2, .bool b3]] w (fun e w' => e = .returned (.tuple #[.int .i64 ((kdN b0 b1 b2 b3 - 1 : Nat) : Int), .bool (decide (0 < kdN b0 b1 b2 b3))]) ∧ Below w.heap.size w w') := by
  have HB := Lib.hid (Joins.below_alloc1 w (.cells #[.bool b0, .bool b1, .bool b2, .bool b3] 68))
  have hA := heap_alloc_last w (.cells #[.bool b0, .bool b1, .bool b2, .bool b3] 68)
  have c0 : (w.alloc (.cells #[.bool b0, .bool b1, .bool b2, .bool b3] 68)).cell? ⟨w.heap.size, 0, none⟩ = some (.bool b0) := by rw [Joins.cell_of_block hA 0]; rfl
  have c1 : (w.alloc (.cells #[.bool b0, .bool b1, .bool b2, .bool b3] 68)).cell? ⟨w.heap.size, 1, none⟩ = some (.bool b1) := by rw [Joins.cell_of_block hA 1]; rfl
  have c2 : (w.alloc (.cells #[.bool b0, .bool b1, .bool b2, .bool b3] 68)).cell? ⟨w.heap.size, 2, none⟩ = some (.bool b2) := by rw [Joins.cell_of_block hA 2]; rfl
  have c3 : (w.alloc (.cells #[.bool b0, .bool b1, .bool b2, .bool b3] 68)).cell? ⟨w.heap.size, 3, none⟩ = some (.bool b3) := by rw [Joins.cell_of_block hA 3]; rfl
  clear hA
  go_enter Tryd.func43, Tryd.ntmps43
  go_wp2
  go_loop [4, 8] (fun nv iv => ∃ i : Nat, i ≤ 4 ∧ iv = .int .i64 i ∧ nv = .int .i64 ((cntQ b0 b1 b2 b3 i : Nat) : Int)) (fun _ iv => 4 - (intOf iv).toNat)
  case atStart => exact ⟨0, by omega, rfl, rfl⟩
  case round =>
    obtain ⟨i, hi, rfl, rfl⟩ := hrel
    by_cases hlt : i < 4
    · have klt : (i : Int) < 4 := by omega
      rcases (by omega : i = 0 ∨ i = 1 ∨ i = 2 ∨ i = 3) with rfl | rfl | rfl | rfl
      · have HN : Hid (cntQ b0 b1 b2 b3 1 = cntQ b0 b1 b2 b3 0 + b0.toNat) := by show _ = _; simp [cntQ]
        have hle := cntQ_le b0 b1 b2 b3 0
        have x0 := ixq0 b0 b1 b2 b3 (w.alloc (.cells #[.bool b0, .bool b1, .bool b2, .bool b3] 68))
        obtain ⟨q, hq⟩ : ∃ q, cntQ b0 b1 b2 b3 0 = q := ⟨_, rfl⟩
        rw [hq] at HN hle ⊢
        have kq : (q : Int) ≤ 4 := by omega
        clear hq
        rcases Bool.eq_false_or_eq_true b0 with hb | hb
        · have HN' : Hid (((cntQ b0 b1 b2 b3 1 : Nat) : Int) = (q : Int) + 1) := by show _ = _; rw [HN.out, hb]; rfl
          have x1 := x0.trans (congrArg (fun b => Result.ok (Value.bool b) _) hb)
          clear HN x0 hb
          go_wp2
          go_round
          case rel => exact ⟨1, by omega, by go_num, by first | (rw [HN'.out]; done) | (rw [HN'.out]; go_num)⟩
          case measure => simp [intOf]
        · have HN' : Hid (((cntQ b0 b1 b2 b3 1 : Nat) : Int) = (q : Int)) := by show _ = _; rw [HN.out, hb]; rfl
          have x1 := x0.trans (congrArg (fun b => Result.ok (Value.bool b) _) hb)
          clear HN x0 hb
          go_wp2
          go_round
          case rel => exact ⟨1, by omega, by go_num, by rw [HN'.out]⟩
          case measure => simp [intOf]
      · have HN : Hid (cntQ b0 b1 b2 b3 2 = cntQ b0 b1 b2 b3 1 + b1.toNat) := by show _ = _; simp [cntQ]
        have hle := cntQ_le b0 b1 b2 b3 1
        have x0 := ixq1 b0 b1 b2 b3 (w.alloc (.cells #[.bool b0, .bool b1, .bool b2, .bool b3] 68))
        obtain ⟨q, hq⟩ : ∃ q, cntQ b0 b1 b2 b3 1 = q := ⟨_, rfl⟩
        rw [hq] at HN hle ⊢
        have kq : (q : Int) ≤ 4 := by omega
        clear hq
        rcases Bool.eq_false_or_eq_true b1 with hb | hb
        · have HN' : Hid (((cntQ b0 b1 b2 b3 2 : Nat) : Int) = (q : Int) + 1) := by show _ = _; rw [HN.out, hb]; rfl
          have x1 := x0.trans (congrArg (fun b => Result.ok (Value.bool b) _) hb)
          clear HN x0 hb
          go_wp2
          go_round
          case rel => exact ⟨2, by omega, by go_num, by first | (rw [HN'.out]; done) | (rw [HN'.out]; go_num)⟩
          case measure => simp [intOf]
        · have HN' : Hid (((cntQ b0 b1 b2 b3 2 : Nat) : Int) = (q : Int)) := by show _ = _; rw [HN.out, hb]; rfl
          have x1 := x0.trans (congrArg (fun b => Result.ok (Value.bool b) _) hb)
          clear HN x0 hb
          go_wp2
          go_round
          case rel => exact ⟨2, by omega, by go_num, by rw [HN'.out]⟩
          case measure => simp [intOf]
      · have HN : Hid (cntQ b0 b1 b2 b3 3 = cntQ b0 b1 b2 b3 2 + b2.toNat) := by show _ = _; simp [cntQ]
        have hle := cntQ_le b0 b1 b2 b3 2
        have x0 := ixq2 b0 b1 b2 b3 (w.alloc (.cells #[.bool b0, .bool b1, .bool b2, .bool b3] 68))
        obtain ⟨q, hq⟩ : ∃ q, cntQ b0 b1 b2 b3 2 = q := ⟨_, rfl⟩
        rw [hq] at HN hle ⊢
        have kq : (q : Int) ≤ 4 := by omega
        clear hq
        rcases Bool.eq_false_or_eq_true b2 with hb | hb
        · have HN' : Hid (((cntQ b0 b1 b2 b3 3 : Nat) : Int) = (q : Int) + 1) := by show _ = _; rw [HN.out, hb]; rfl
          have x1 := x0.trans (congrArg (fun b => Result.ok (Value.bool b) _) hb)
          clear HN x0 hb
          go_wp2
          go_round
          case rel => exact ⟨3, by omega, by go_num, by first | (rw [HN'.out]; done) | (rw [HN'.out]; go_num)⟩
          case measure => simp [intOf]
        · have HN' : Hid (((cntQ b0 b1 b2 b3 3 : Nat) : Int) = (q : Int)) := by show _ = _; rw [HN.out, hb]; rfl
          have x1 := x0.trans (congrArg (fun b => Result.ok (Value.bool b) _) hb)
          clear HN x0 hb
          go_wp2
          go_round
          case rel => exact ⟨3, by omega, by go_num, by rw [HN'.out]⟩
          case measure => simp [intOf]
      · have HN : Hid (cntQ b0 b1 b2 b3 4 = cntQ b0 b1 b2 b3 3 + b3.toNat) := by show _ = _; simp [cntQ]
        have hle := cntQ_le b0 b1 b2 b3 3
        have x0 := ixq3 b0 b1 b2 b3 (w.alloc (.cells #[.bool b0, .bool b1, .bool b2, .bool b3] 68))
        obtain ⟨q, hq⟩ : ∃ q, cntQ b0 b1 b2 b3 3 = q := ⟨_, rfl⟩
        rw [hq] at HN hle ⊢
        have kq : (q : Int) ≤ 4 := by omega
        clear hq
        rcases Bool.eq_false_or_eq_true b3 with hb | hb
        · have HN' : Hid (((cntQ b0 b1 b2 b3 4 : Nat) : Int) = (q : Int) + 1) := by show _ = _; rw [HN.out, hb]; rfl
          have x1 := x0.trans (congrArg (fun b => Result.ok (Value.bool b) _) hb)
          clear HN x0 hb
          go_wp2
          go_round
          case rel => exact ⟨4, by omega, by go_num, by first | (rw [HN'.out]; done) | (rw [HN'.out]; go_num)⟩
          case measure => simp [intOf]
        · have HN' : Hid (((cntQ b0 b1 b2 b3 4 : Nat) : Int) = (q : Int)) := by show _ = _; rw [HN.out, hb]; rfl
          have x1 := x0.trans (congrArg (fun b => Result.ok (Value.bool b) _) hb)
          clear HN x0 hb
          go_wp2
          go_round
          case rel => exact ⟨4, by omega, by go_num, by rw [HN'.out]⟩
          case measure => simp [intOf]
    · obtain rfl : i = 4 := by omega
      obtain ⟨n, hn⟩ : ∃ n, cntQ b0 b1 b2 b3 4 = n := ⟨_, rfl⟩
      rw [hn]
      cases b0 <;> cases b1 <;> cases b2 <;> cases b3
      all_goals (
        simp only [cntQ, Bool.toNat, cond_true, cond_false, Nat.zero_add, Nat.add_zero, Nat.reduceAdd] at hn
        subst hn
        go_wp2
        go_ret2
        exact ⟨rfl, HB.out⟩)
end Go.Proofs.YtaopdhncapoefaaDoor
