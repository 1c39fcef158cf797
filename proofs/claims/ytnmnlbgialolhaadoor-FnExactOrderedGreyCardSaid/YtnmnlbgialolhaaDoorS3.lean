/- Contracts of single functions, and plain lemmas, on which the exact laws of this seat rest; each holds under the conditions that it states. -/
import Derived.Test.YtnmnlbgialolhaaDoorR3
namespace Go.Proofs.YtnmnlbgialolhaaDoor
set_option linter.unusedVariables false
set_option linter.unusedSimpArgs false
open Go.RowKit

/-- the table of the eight pixels around one -/
def rgL : List Value := [.int .i64 1, .int .i64 0, .int .i64 1, .int .i64 1, .int .i64 0, .int .i64 1, .int .i64 (-1), .int .i64 1, .int .i64 (-1), .int .i64 0, .int .i64 (-1), .int .i64 (-1), .int .i64 0, .int .i64 (-1), .int .i64 1, .int .i64 (-1)]
/-- the eight pixels around x, y -/
def rgV (p : Int → Int → Bool) (x y : Int) : Nat → Bool
  | 0 => p (x + 1) y
  | 1 => p (x + 1) (y + 1)
  | 2 => p x (y + 1)
  | 3 => p (x + -1) (y + 1)
  | 4 => p (x + -1) y
  | 5 => p (x + -1) (y + -1)
  | 6 => p x (y + -1)
  | _ => p (x + 1) (y + -1)
/-- bits as a number -/
def rgN (f : Nat → Bool) : Nat → Nat
  | 0 => 0
  | k + 1 => rgN f k + (if f k = true then 2 ^ k else 0)
theorem rgN_lt (f : Nat → Bool) : ∀ k, rgN f k < 2 ^ k
  | 0 => by simp [rgN]
  | k + 1 => by
    have := rgN_lt f k
    simp only [rgN]
    have e : 2 ^ (k + 1) = 2 ^ k + 2 ^ k := by rw [Nat.pow_succ]; omega
    split <;> omega
theorem u8_or (W k : Nat) (hW : W < 2 ^ k) (hk : k < 8) : bits .or .u8 (W : Int) ((2 ^ k : Nat) : Int) = ((W + 2 ^ k : Nat) : Int) := by
  have h2 : 2 ^ k ≤ 2 ^ 7 := Nat.pow_le_pow_right (by omega) (by omega)
  rw [u8_or_nat W (2 ^ k) (by omega) (by omega)]
  have := Nat.two_pow_add_eq_or_of_lt hW 1
  rw [Nat.mul_one] at this
  rw [Nat.or_comm, ← this, Nat.add_comm]
structure RgS (w W : World) (M : Array Value) (x y : Int) : Prop where
  m : W.heap[w.heap.size]? = some (.cells M 63 (0, 0))
  s : W.heap[w.heap.size + 1]? = some (.cells #[.int .i64 x, .int .i64 y] 93 (0, 0))
  bel : Below w.heap.size w W
theorem RgS.below {w W W' : World} {M : Array Value} {x y : Int} (h : RgS w W M x y) (hb : Below W.heap.size W W') : RgS w W' M x y :=
  ⟨(hb.block _ (Array.getElem?_eq_some_iff.1 h.m).1).trans h.m, (hb.block _ (Array.getElem?_eq_some_iff.1 h.s).1).trans h.s, h.bel.trans (hb.mono h.bel.size)⟩
theorem RgS.start (w : World) (M : Array Value) (x y : Int) : RgS w ((w.alloc (.cells M 63)).alloc (.cells #[.int .i64 x, .int .i64 y] 93)) M x y :=
  ⟨by rw [Below.heap_alloc _ _ _ (by simp)]; exact heap_alloc_last w _, heap_alloc2_new _ _ _, Joins.below_alloc2 w _ _⟩
end Go.Proofs.YtnmnlbgialolhaaDoor
