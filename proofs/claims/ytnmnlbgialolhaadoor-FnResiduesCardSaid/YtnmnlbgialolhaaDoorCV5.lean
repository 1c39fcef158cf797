/- Contracts of single functions, and plain lemmas, on which the exact laws of this seat rest; each holds under the conditions that it states. -/
import Derived.Test.YtnmnlbgialolhaaDoorRI
import Derived.Test.YtnmnlbgialolhaaDoorGL
import Derived.DeepKeys
import Derived.DeepKeys2
import Derived.BigQuiet
import Derived.Deep.QuietTactic
namespace Go.Proofs.YtnmnlbgialolhaaDoor
set_option linter.unusedVariables false
set_option linter.unusedSimpArgs false
open Go.RowKit
attribute [local go_sem] Oper.semAt_some

/-- a struct is built, as is known beforehand -/
theorem wp_build_as {P : Program} {o : Oper} {a : Act} {w : World} {K : Act → World → Prop} {Q : Exit → Act → World → Prop} (t : TypeId) (parts : Array (Nat × Operand)) (ho : o.op = .build t parts) (vals : List (Nat × Value)) (cells : Array Value)
    (hv : parts.toList.map (fun (i, x) => (i, a.eval x)) = vals) (hb : P.built t vals = some cells) (h : K (a.put o.dst (.agg cells)) w) : o.wp P a w K Q :=
  wp_build t parts ho (by rw [Array.toList_map, hv, hb]; rfl) (by rw [Array.toList_map, hv, hb]; exact h)
/-- the side of the square of an order -/
def sd (n : Int) : Int := 2 ^ n.toNat
theorem sd_wrap {n : Int} (h0 : 0 ≤ n) (h4 : n ≤ 4) : wrap64 (2 ^ n.toNat) = sd n := by
  have : n = 0 ∨ n = 1 ∨ n = 2 ∨ n = 3 ∨ n = 4 := by omega
  rcases this with rfl | rfl | rfl | rfl | rfl <;> decide +kernel
theorem sd_wrap2 {n : Int} (h0 : 0 ≤ n) (h4 : n ≤ 4) : IntKind.i64.wrap (2 ^ n.toNat) = sd n := by
  have : n = 0 ∨ n = 1 ∨ n = 2 ∨ n = 3 ∨ n = 4 := by omega
  rcases this with rfl | rfl | rfl | rfl | rfl <;> decide +kernel
theorem sd_le {n : Int} (h0 : 0 ≤ n) (h4 : n ≤ 4) : 1 ≤ sd n ∧ sd n ≤ 16 := by
  have : n = 0 ∨ n = 1 ∨ n = 2 ∨ n = 3 ∨ n = 4 := by omega
  rcases this with rfl | rfl | rfl | rfl | rfl <;> decide +kernel

end Go.Proofs.YtnmnlbgialolhaaDoor

/- Contracts of single functions, and plain lemmas, on which the exact laws of this seat rest; each holds under the conditions that it states. -/
namespace Go.Proofs.YtnmnlbgialolhaaDoor
set_option linter.unusedVariables false
set_option linter.unusedSimpArgs false
open Go.RowKit
attribute [local go_sem] Oper.semAt_some

/-! ### the table of the quarters -/
def qvL : List Nat := [0, 0, 0, 1, 0, 0, 0, 1, 0, 1, 1, 0, 0, 0, 2, 0, 1, 1, 1, 1, 1, 1, 0, 3, 0, 0, 1, 1, 0, 2, 1, 1, 2, 0, 1, 4, 1, 1, 4, 0, 1, 3, 0, 0, 3, 1, 0, 1, 1, 1, 3, 1, 0, 4, 0, 0, 4, 0, 1, 2]
def qxN (m d : Nat) : Nat := qvL.getD (m * 12 + d * 3) 0
def qyN (m d : Nat) : Nat := qvL.getD (m * 12 + d * 3 + 1) 0
def qhN (m d : Nat) : Nat := qvL.getD (m * 12 + d * 3 + 2) 0
/-- how many quarters come before the one at a place -/
def dgN (m a b : Nat) : Nat := ((List.range 4).find? fun d => qxN m d == a && qyN m d == b).getD 0
def nxN (m a b : Nat) : Nat := qhN m (dgN m a b)
theorem dg_lt : ∀ m < 5, ∀ a < 2, ∀ b < 2, dgN m a b < 4 := by decide +kernel
theorem dg_at : ∀ m < 5, ∀ a < 2, ∀ b < 2, qxN m (dgN m a b) = a ∧ qyN m (dgN m a b) = b := by decide +kernel
theorem dg_before : ∀ m < 5, ∀ a < 2, ∀ b < 2, ∀ d < dgN m a b, ¬ (qxN m d = a ∧ qyN m d = b) := by decide +kernel
theorem nx_lt : ∀ m < 5, ∀ a < 2, ∀ b < 2, nxN m a b < 5 := by decide +kernel
theorem qx_lt : ∀ m < 5, ∀ d < 4, qxN m d < 2 ∧ qyN m d < 2 := by decide +kernel
/-! ### places compared -/
/-! ### the index of a spot, as the program finds it -/
def pb (x k : Nat) : Nat := x / 2 ^ k % 2
theorem pb_lt (x k : Nat) : pb x k < 2 := Nat.mod_lt _ (by omega)
theorem pb_eq : ∀ x < 16, ∀ k < 4, bits .and .i64 ((x : Nat) / 2 ^ k) 1 = ((pb x k : Nat) : Int) := by decide +kernel
def qF : Nat → Nat → Int → Nat → Nat → Int
  | 0, _, acc, _, _ => acc
  | b + 1, m, acc, x, y => qF b (nxN m (pb x b) (pb y b)) (bits .or .i64 (wrap64 (acc * 4)) ((dgN m (pb x b) (pb y b) : Nat) : Int)) x y
def rwI (n x y : Nat) : Int := bits .or .i64 (wrap64 ((y : Int) * 2 ^ n)) (x : Int)
def ixI (c n x y : Nat) : Int :=
  if c = 2 then qF n 0 0 x y else if c = 3 then qF n 1 0 x y else if c = 1 ∧ y % 2 = 1 then rwI n (2 ^ n - 1 - x) y else rwI n x y
/-! ### and as the specification does -/
def tnS : Nat → Nat → Nat → Nat
  | 0, _, _ => 0
  | n + 1, x, y => if x < 2 ^ n ∧ y < 2 ^ n then tnS n y x else if x < 2 ^ n then 2 ^ n * 2 ^ n + tnS n x (y - 2 ^ n) else if 2 ^ n ≤ y then 2 * (2 ^ n * 2 ^ n) + tnS n (x - 2 ^ n) (y - 2 ^ n) else 3 * (2 ^ n * 2 ^ n) + tnS n (2 ^ n - 1 - y) (2 * 2 ^ n - 1 - x)
theorem tnS_lt : ∀ n x y, tnS n x y < 2 ^ n * 2 ^ n
  | 0, _, _ => by simp [tnS]
  | n + 1, x, y => by
    have h := tnS_lt n
    have e : 2 ^ (n + 1) * 2 ^ (n + 1) = 4 * (2 ^ n * 2 ^ n) := by rw [Nat.pow_succ]; simp only [Nat.mul_comm, Nat.mul_left_comm]; omega
    rw [e]
    unfold tnS
    have h1 := h y x
    have h2 := h x (y - 2 ^ n)
    have h3 := h (x - 2 ^ n) (y - 2 ^ n)
    have h4 := h (2 ^ n - 1 - y) (2 * 2 ^ n - 1 - x)
    generalize 2 ^ n * 2 ^ n = p at *
    split
    · omega
    · split
      · omega
      · split <;> omega
def btS (x y : Nat) : Nat → Int
  | 0 => 0
  | k + 1 => bits .or .i64 (btS x y k) (bits .or .i64 (wrap64 (((pb x k : Nat) : Int) * 2 ^ (2 * k))) (wrap64 (((pb y k : Nat) : Int) * 2 ^ (2 * k + 1))))
def ixS (c n x y : Nat) : Int :=
  if c = 0 then (y : Int) * 2 ^ n + x else if c = 1 then (if y % 2 = 1 then (y : Int) * 2 ^ n + 2 ^ n - 1 - x else (y : Int) * 2 ^ n + x) else if c = 2 then btS x y n else ((tnS n x y : Nat) : Int)
set_option maxRecDepth 100000 in
theorem ixI_eq : ∀ c < 4, ∀ n < 5, ∀ x < 2 ^ n, ∀ y < 2 ^ n, ixI c n x y = ixS c n x y := by decide +kernel
set_option maxRecDepth 100000 in
theorem ixS_lt : ∀ c < 4, ∀ n < 5, ∀ x < 2 ^ n, ∀ y < 2 ^ n, 0 ≤ ixS c n x y ∧ ixS c n x y < 2 ^ n * 2 ^ n := by decide +kernel
end Go.Proofs.YtnmnlbgialolhaaDoor

/- Contracts of single functions, and plain lemmas, on which the exact laws of this seat rest; each holds under the conditions that it states. -/
namespace Go.Proofs.YtnmnlbgialolhaaDoor
set_option linter.unusedVariables false
set_option linter.unusedSimpArgs false
open Go.RowKit
attribute [local go_sem] Oper.semAt_some

/-- the cells of a tour and of a spot that are arguments -/
structure TS (w W0 : World) (c n x y : Nat) : Prop where
  b : Below w.heap.size w W0
  cells : ∀ W, Below W0.heap.size W0 W → W.cell? ⟨w.heap.size, 0, none⟩ = some (.int .i64 (c : Int)) ∧ W.cell? ⟨w.heap.size, 1, none⟩ = some (.int .i64 (n : Int)) ∧ W.cell? ⟨w.heap.size + 1, 0, none⟩ = some (.int .i64 (x : Int)) ∧ W.cell? ⟨w.heap.size + 1, 1, none⟩ = some (.int .i64 (y : Int))
  lt : w.heap.size + 1 < W0.heap.size
end Go.Proofs.YtnmnlbgialolhaaDoor
