/- Contracts of single functions, and plain lemmas, on which the exact laws of this seat rest; each holds under the conditions that it states. -/
import Derived.Test.YtdeagfmldpociaaDoorCV1
import Derived.DeepKeys
import Derived.DeepKeys2
namespace Go.Proofs.YtdeagfmldpociaaDoor
set_option linter.unusedVariables false
set_option linter.unusedSimpArgs false
open Go.RowKit
attribute [local go_sem] Oper.semAt_some

/-! ### the table of the quarters -/
def qvL : List Nat := [0, 0, 0, 1, 0, 0, 0, 1, 0, 1, 1, 0, 0, 0, 2, 0, 1, 1, 1, 1, 1, 1, 0, 3, 0, 0, 1, 1, 0, 2, 1, 1, 2, 0, 1, 4, 1, 1, 4, 0, 1, 3, 0, 0, 3, 1, 0, 1, 1, 1, 3, 1, 0, 4, 0, 0, 4, 0, 1, 2]
def qxN (m d : Nat) : Nat := qvL.getD (m * 12 + d * 3) 0
def qyN (m d : Nat) : Nat := qvL.getD (m * 12 + d * 3 + 1) 0
def qhN (m d : Nat) : Nat := qvL.getD (m * 12 + d * 3 + 2) 0
/-- how many quarters come before the one at a place -/
def dgN (m a b : Nat) : Nat := ((List.range 4).find? fun d => qxN m d == a && qyN m d == b).getD 0
def nxN (m a b : Nat) : Nat := qhN m (dgN m a b)
theorem dg_lt : ∀ m < 5, ∀ a < 2, ∀ b < 2, dgN m a b < 4 := by decide +kernel
theorem dg_at : ∀ m < 5, ∀ a < 2, ∀ b < 2, qxN m (dgN m a b) = a ∧ qyN m (dgN m a b) = b := by decide +kernel
theorem dg_before : ∀ m < 5, ∀ a < 2, ∀ b < 2, ∀ d < dgN m a b, ¬ (qxN m d = a ∧ qyN m d = b) := by decide +kernel
theorem nx_lt : ∀ m < 5, ∀ a < 2, ∀ b < 2, nxN m a b < 5 := by decide +kernel
theorem qx_lt : ∀ m < 5, ∀ d < 4, qxN m d < 2 ∧ qyN m d < 2 := by decide +kernel
/-- the table in its variable -/
def QvP (w : World) : Prop := (∀ j, j < 60 → w.cell? ⟨3, j, none⟩ = some (.int .i64 ((qvL.getD j 0 : Nat) : Int))) ∧ 3 < w.heap.size
theorem QvP.below {w w' : World} (h : QvP w) (hb : Below w.heap.size w w') : QvP w' :=
  ⟨fun j hj => (hb.cell (p := ⟨_, _, none⟩) h.2).trans (h.1 j hj), Nat.lt_of_lt_of_le h.2 hb.size⟩

/-! ### places compared -/
theorem kyP_some (x y : Nat) (hx : x < 2) (hy : y < 2) : (keyOf Tryd.prog 165 (.agg #[.int .i64 (x : Int), .int .i64 (y : Int)])).isSome = true := by
  rcases (by omega : x = 0 ∨ x = 1) with rfl | rfl <;> rcases (by omega : y = 0 ∨ y = 1) with rfl | rfl <;> kernel_rfl
set_option maxRecDepth 20000 in
/-- two places compared -/
theorem ne2 (x y a b : Nat) (hx : x < 2) (hy : y < 2) (ha : a < 2) (hb : b < 2) (w : World) : (binOp .neq 165 (.agg #[.int .i64 (x : Int), .int .i64 (y : Int)]) (.agg #[.int .i64 (a : Int), .int .i64 (b : Int)])).run Tryd.prog w = .ok (.bool (!decide (x = a ∧ y = b))) w := by
  obtain ⟨l1, h1⟩ := Option.isSome_iff_exists.1 (kyP_some x y hx hy)
  obtain ⟨l2, h2⟩ := Option.isSome_iff_exists.1 (kyP_some a b ha hb)
  obtain ⟨c, hc, hiff⟩ := run_equal_deep (P := Tryd.prog) w (m := 4) (by decide) (k := 165) (by kernel_rfl) (by rw [Tryd.underlying165]) h1 h2
  have e : c = decide (x = a ∧ y = b) := by
    rw [Bool.eq_iff_iff, hiff, decide_eq_true_eq]
    refine ⟨fun e => ?_, fun e => ?_⟩
    · have key : ∀ {x : Array Value} {l : Lit}, keyOf Tryd.prog 165 (.agg x) = some l → ∃ L, Tryd.prog.keyLits (Tryd.prog.types.size + 1) 165 x.toList = some L ∧ l = .string (keyBytes L) := by
        intro x l h
        unfold keyOf at h
        rw [Tryd.underlying165] at h
        simp only at h
        split at h
        · simp only [Option.map_eq_some_iff] at h
          obtain ⟨L, hl, rfl⟩ := h
          exact ⟨L, hl, rfl⟩
        · cases h
      obtain ⟨L1, k1, rfl⟩ := key h1
      obtain ⟨L2, k2, rfl⟩ := key h2
      have e2 : L1 = L2 := keyLits_inj k1 k2 (by simpa using e)
      have c1 := cells_of_lits (P := Tryd.prog) 4 165 (by kernel_rfl) _ _ _ k1
      have c2 := cells_of_lits (P := Tryd.prog) 4 165 (by kernel_rfl) _ _ _ k2
      rw [e2] at c1
      have h3 := c1.trans c2.symm
      simp at h3
      exact ⟨by omega, by omega⟩
    · rw [e.1, e.2] at h1
      rw [h1] at h2
      exact Option.some.inj h2
  rw [e] at hc
  simp [binOp, hc]

/-! ### the index of a spot, as the program finds it -/
def pb (x k : Nat) : Nat := x / 2 ^ k % 2
theorem pb_lt (x k : Nat) : pb x k < 2 := Nat.mod_lt _ (by omega)
theorem pb_eq : ∀ x < 16, ∀ k < 4, bits .and .i64 ((x : Nat) / 2 ^ k) 1 = ((pb x k : Nat) : Int) := by decide +kernel
def qF : Nat → Nat → Int → Nat → Nat → Int
  | 0, _, acc, _, _ => acc
  | b + 1, m, acc, x, y => qF b (nxN m (pb x b) (pb y b)) (bits .or .i64 (wrap64 (acc * 4)) ((dgN m (pb x b) (pb y b) : Nat) : Int)) x y
def rwI (n x y : Nat) : Int := bits .or .i64 (wrap64 ((y : Int) * 2 ^ n)) (x : Int)
def ixI (c n x y : Nat) : Int :=
  if c = 2 then qF n 0 0 x y else if c = 3 then qF n 1 0 x y else if c = 1 ∧ y % 2 = 1 then rwI n (2 ^ n - 1 - x) y else rwI n x y
/-! ### and as the specification does -/
def tnS : Nat → Nat → Nat → Nat
  | 0, _, _ => 0
  | n + 1, x, y => if x < 2 ^ n ∧ y < 2 ^ n then tnS n y x else if x < 2 ^ n then 2 ^ n * 2 ^ n + tnS n x (y - 2 ^ n) else if 2 ^ n ≤ y then 2 * (2 ^ n * 2 ^ n) + tnS n (x - 2 ^ n) (y - 2 ^ n) else 3 * (2 ^ n * 2 ^ n) + tnS n (2 ^ n - 1 - y) (2 * 2 ^ n - 1 - x)
theorem tnS_lt : ∀ n x y, tnS n x y < 2 ^ n * 2 ^ n
  | 0, _, _ => by simp [tnS]
  | n + 1, x, y => by
    have h := tnS_lt n
    have e : 2 ^ (n + 1) * 2 ^ (n + 1) = 4 * (2 ^ n * 2 ^ n) := by rw [Nat.pow_succ]; simp only [Nat.mul_comm, Nat.mul_left_comm]; omega
    rw [e]
    unfold tnS
    have h1 := h y x
    have h2 := h x (y - 2 ^ n)
    have h3 := h (x - 2 ^ n) (y - 2 ^ n)
    have h4 := h (2 ^ n - 1 - y) (2 * 2 ^ n - 1 - x)
    generalize 2 ^ n * 2 ^ n = p at *
    split
    · omega
    · split
      · omega
      · split <;> omega
def btS (x y : Nat) : Nat → Int
  | 0 => 0
  | k + 1 => bits .or .i64 (btS x y k) (bits .or .i64 (wrap64 (((pb x k : Nat) : Int) * 2 ^ (2 * k))) (wrap64 (((pb y k : Nat) : Int) * 2 ^ (2 * k + 1))))
def ixS (c n x y : Nat) : Int :=
  if c = 0 then (y : Int) * 2 ^ n + x else if c = 1 then (if y % 2 = 1 then (y : Int) * 2 ^ n + 2 ^ n - 1 - x else (y : Int) * 2 ^ n + x) else if c = 2 then btS x y n else ((tnS n x y : Nat) : Int)
set_option maxRecDepth 100000 in
theorem ixI_eq : ∀ c < 4, ∀ n < 5, ∀ x < 2 ^ n, ∀ y < 2 ^ n, ixI c n x y = ixS c n x y := by decide +kernel
set_option maxRecDepth 100000 in
theorem ixS_lt : ∀ c < 4, ∀ n < 5, ∀ x < 2 ^ n, ∀ y < 2 ^ n, 0 ≤ ixS c n x y ∧ ixS c n x y < 2 ^ n * 2 ^ n := by decide +kernel
end Go.Proofs.YtdeagfmldpociaaDoor
