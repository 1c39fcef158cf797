/- Contracts of single functions, and plain lemmas, on which the exact laws of this seat rest; each holds under the conditions that it states. -/
import Derived.Test.YtnmnlbgialolhaaDoorCV6
import Derived.Test.YtnmnlbgialolhaaDoorRI
import Derived.Test.YtnmnlbgialolhaaDoorD3
import Derived.BigRegion
namespace Go.Proofs.YtnmnlbgialolhaaDoor
set_option linter.unusedVariables false
set_option linter.unusedSimpArgs false
open Go.RowKit
attribute [local go_sem] Oper.semAt_some

def ixOk (c n x y : Int) : Bool := (inB c 0 3 && inB n 0 4) && (inB x 0 (sd n - 1) && inB y 0 (sd n - 1))
def ixV (c n x y : Int) : Int := if ixOk c n x y = true then ixS c.toNat n.toNat x.toNat y.toNat else 0
/-- the four numbers in variables -/
def IxAt (W : World) (pc pn px py : Nat) (c n x y : Int) : Prop :=
  W.cell? ⟨pc, 0, none⟩ = some (.int .i64 c) ∧ W.cell? ⟨pn, 0, none⟩ = some (.int .i64 n) ∧ W.cell? ⟨px, 0, none⟩ = some (.int .i64 x) ∧ W.cell? ⟨py, 0, none⟩ = some (.int .i64 y)
theorem IxAt.kept {w W : World} {pc pn px py : Nat} {c n x y : Int} (h : IxAt w pc pn px py c n x y) (hb : Below w.heap.size w W) : IxAt W pc pn px py c n x y :=
  ⟨cell_kept hb h.1, cell_kept hb h.2.1, cell_kept hb h.2.2.1, cell_kept hb h.2.2.2⟩
theorem inB_le {x a b : Int} (h : inB x a b = true) : a ≤ x ∧ x ≤ b := by
  unfold inB at h
  simpa using h
/-- what is known of four numbers that have an index -/
theorem ix_nat {c n x y : Int} (h : ixOk c n x y = true) : ∃ c' n' x' y' : Nat, c = c' ∧ n = n' ∧ x = x' ∧ y = y' ∧ c' < 4 ∧ n' ≤ 4 ∧ x' < 2 ^ n' ∧ y' < 2 ^ n' := by
  unfold ixOk at h
  simp only [Bool.and_eq_true] at h
  obtain ⟨⟨h1, h2⟩, h3, h4⟩ := h
  have h1 := inB_le h1
  have h2 := inB_le h2
  have h3 := inB_le h3
  have h4 := inB_le h4
  obtain ⟨n', rfl⟩ : ∃ k : Nat, n = k := ⟨n.toNat, by omega⟩
  rw [sd_nat] at h3 h4
  exact ⟨c.toNat, n', x.toNat, y.toNat, by omega, rfl, by omega, by omega, by omega, by omega, by omega, by omega⟩

end Go.Proofs.YtnmnlbgialolhaaDoor

/- Contracts of single functions, and plain lemmas, on which the exact laws of this seat rest; each holds under the conditions that it states. -/
namespace Go.Proofs.YtnmnlbgialolhaaDoor
set_option linter.unusedVariables false
set_option linter.unusedSimpArgs false
open Go.RowKit
attribute [local go_sem] Oper.semAt_some

/-! ### all spots in the order of a curve -/
def cvL (c n : Nat) : Nat → List (Int × Int)
  | 0 => List.replicate (2 ^ n * 2 ^ n) (0, 0)
  | k + 1 => (cvL c n k).set (ixS c n (k % 2 ^ n) (k / 2 ^ n)).toNat (((k % 2 ^ n : Nat) : Int), ((k / 2 ^ n : Nat) : Int))
theorem cvL_len (c n : Nat) : ∀ k, (cvL c n k).length = 2 ^ n * 2 ^ n
  | 0 => by simp [cvL]
  | k + 1 => by simp only [cvL, List.length_set]; exact cvL_len c n k
theorem cvL_step (c n x y : Nat) (hx : x < 2 ^ n) : cvL c n (y * 2 ^ n + x + 1) = (cvL c n (y * 2 ^ n + x)).set (ixS c n x y).toNat ((x : Int), (y : Int)) := by
  have d1 : (y * 2 ^ n + x) % 2 ^ n = x := by rw [Nat.mul_comm, Nat.mul_add_mod, Nat.mod_eq_of_lt hx]
  have d2 : (y * 2 ^ n + x) / 2 ^ n = y := by rw [Nat.mul_comm, Nat.mul_add_div (by omega), Nat.div_eq_of_lt hx, Nat.add_zero]
  show (cvL c n (y * 2 ^ n + x)).set _ _ = _
  rw [d1, d2]
def cvF (c n : Nat) : List (Int × Int) := cvL c n (2 ^ n * 2 ^ n)
theorem cvF_len (c n : Nat) : (cvF c n).length = 2 ^ n * 2 ^ n := cvL_len c n _
theorem flat2_zero (n : Nat) : (madeCells #[.int .i64 0, .int .i64 0] (n * 2)).toList = flat2 (List.replicate n (0, 0)) := by
  rw [part2_zero [] n]
  unfold part2 flat2
  rw [List.length_replicate]
  apply List.map_congr_left
  intro j hj
  have hj2 : j / 2 < n := by have := List.mem_range.1 hj; omega
  rw [if_neg (Nat.not_lt_zero _)]
  unfold spotC
  have : (List.replicate n ((0 : Int), (0 : Int))).getD (j / 2) (0, 0) = (0, 0) := by
    rw [List.getD_eq_getElem?_getD, List.getElem?_replicate, if_pos hj2]; rfl
  rw [this]
  split <;> rfl
theorem flat2_set (L : List (Int × Int)) (i : Nat) (x y : Int) (hi : i < L.length) : ((flat2 L).set (i * 2) (.int .i64 x)).set (i * 2 + 1) (.int .i64 y) = flat2 (L.set i (x, y)) := by
  apply List.ext_getElem?
  intro j
  rw [List.getElem?_set, List.getElem?_set]
  simp only [List.length_set, flat2_len]
  by_cases hj : j < L.length * 2
  · rw [flat2_at L j hj, flat2_at (L.set i (x, y)) j (by rw [List.length_set]; exact hj)]
    unfold spotC
    rw [List.getD_eq_getElem?_getD, List.getD_eq_getElem?_getD, List.getElem?_set]
    by_cases e : i = j / 2
    · subst e
      rw [if_pos rfl, if_pos hi]
      by_cases h0 : j % 2 = 0
      · rw [if_neg (by omega), if_pos (by omega), if_pos (by omega), if_pos h0]; rfl
      · rw [if_pos (by omega), if_pos (by omega), if_neg h0]; rfl
    · rw [if_neg e, if_neg (by omega), if_neg (by omega)]
  · rw [if_neg (by omega), if_neg (by omega), List.getElem?_eq_none (by rw [flat2_len]; omega), List.getElem?_eq_none (by rw [flat2_len, List.length_set]; omega)]

/-- a row of spots that was made -/
def TookSpots (w : World) (L : List (Int × Int)) (e : Ending) (w' : World) : Prop := ∃ g cap, e = .returned (.slice (some ⟨g, 0, none⟩) L.length cap) ∧ OwnS w' w.heap.size (.slice (some ⟨g, 0, none⟩) L.length cap) L ∧ Below w.heap.size w w'

end Go.Proofs.YtnmnlbgialolhaaDoor
