/- Contracts of single functions, and plain lemmas, on which the exact laws of this seat rest; each holds under the conditions that it states. -/
import Derived.Test.YtnmnlbgialolhaaDoorJa
import Derived.Test.YtnmnlbgialolhaaDoorCc
import Derived.Test.YtnmnlbgialolhaaDoorRc
import Derived.Deep.DeepCutAuto
namespace Go.Proofs.YtnmnlbgialolhaaDoor
set_option linter.unusedVariables false
set_option linter.unusedSimpArgs false
open Go.RowKit

/-! ### planes: twenty-six cells: the width, the height, twenty-four words -/
def pcells (a b : Int) (f : Nat → Int) : Array Value := #[.int .i64 a, .int .i64 b, .int .u32 (f 0), .int .u32 (f 1), .int .u32 (f 2), .int .u32 (f 3), .int .u32 (f 4), .int .u32 (f 5), .int .u32 (f 6), .int .u32 (f 7), .int .u32 (f 8), .int .u32 (f 9), .int .u32 (f 10), .int .u32 (f 11), .int .u32 (f 12), .int .u32 (f 13), .int .u32 (f 14), .int .u32 (f 15), .int .u32 (f 16), .int .u32 (f 17), .int .u32 (f 18), .int .u32 (f 19), .int .u32 (f 20), .int .u32 (f 21), .int .u32 (f 22), .int .u32 (f 23)]
theorem pcells_size (a b : Int) (f : Nat → Int) : (pcells a b f).size = 26 := rfl
theorem pcells_one (a b : Int) (f : Nat → Int) : (pcells a b f).all (·.oneCell') = true := by simp [pcells, Value.oneCell']
theorem pcells_word (a b : Int) (f : Nat → Int) (j : Nat) (h : j < 24) : (pcells a b f)[2 + j]? = some (.int .u32 (f j)) := by
  have : j = 0 ∨ j = 1 ∨ j = 2 ∨ j = 3 ∨ j = 4 ∨ j = 5 ∨ j = 6 ∨ j = 7 ∨ j = 8 ∨ j = 9 ∨ j = 10 ∨ j = 11 ∨ j = 12 ∨ j = 13 ∨ j = 14 ∨ j = 15 ∨ j = 16 ∨ j = 17 ∨ j = 18 ∨ j = 19 ∨ j = 20 ∨ j = 21 ∨ j = 22 ∨ j = 23 := by omega
  rcases this with rfl | rfl | rfl | rfl | rfl | rfl | rfl | rfl | rfl | rfl | rfl | rfl | rfl | rfl | rfl | rfl | rfl | rfl | rfl | rfl | rfl | rfl | rfl | rfl <;> rfl
theorem pcells_set (a b : Int) (f : Nat → Int) (j : Nat) (h : j < 24) (x : Int) : (pcells a b f).setIfInBounds (2 + j) (.int .u32 x) = pcells a b (fun i => if i = j then x else f i) := by
  have : j = 0 ∨ j = 1 ∨ j = 2 ∨ j = 3 ∨ j = 4 ∨ j = 5 ∨ j = 6 ∨ j = 7 ∨ j = 8 ∨ j = 9 ∨ j = 10 ∨ j = 11 ∨ j = 12 ∨ j = 13 ∨ j = 14 ∨ j = 15 ∨ j = 16 ∨ j = 17 ∨ j = 18 ∨ j = 19 ∨ j = 20 ∨ j = 21 ∨ j = 22 ∨ j = 23 := by omega
  rcases this with rfl | rfl | rfl | rfl | rfl | rfl | rfl | rfl | rfl | rfl | rfl | rfl | rfl | rfl | rfl | rfl | rfl | rfl | rfl | rfl | rfl | rfl | rfl | rfl <;> rfl
theorem pcells_congr (a b : Int) {f g : Nat → Int} (h : ∀ j, j < 24 → f j = g j) : pcells a b f = pcells a b g := by
  unfold pcells
  rw [h 0 (by omega), h 1 (by omega), h 2 (by omega), h 3 (by omega), h 4 (by omega), h 5 (by omega), h 6 (by omega), h 7 (by omega), h 8 (by omega), h 9 (by omega), h 10 (by omega), h 11 (by omega), h 12 (by omega), h 13 (by omega), h 14 (by omega), h 15 (by omega), h 16 (by omega), h 17 (by omega), h 18 (by omega), h 19 (by omega), h 20 (by omega), h 21 (by omega), h 22 (by omega), h 23 (by omega)]
/-- the plane of words -/
def pl (a b : Nat) (g : Nat → Nat) : Array Value := pcells a b (fun j => (g j : Int))
theorem pl_size (a b : Nat) (g : Nat → Nat) : (pl a b g).size = 26 := rfl
theorem pl_one (a b : Nat) (g : Nat → Nat) : (pl a b g).all (·.oneCell') = true := pcells_one _ _ _
theorem pl_word (a b : Nat) (g : Nat → Nat) (j : Nat) (h : j < 24) : (pl a b g)[2 + j]? = some (.int .u32 (g j)) := pcells_word _ _ _ j h
theorem pl_congr (a b : Nat) {f g : Nat → Nat} (h : ∀ j, j < 24 → f j = g j) : pl a b f = pl a b g := pcells_congr _ _ (fun j hj => by rw [h j hj])
theorem pl_put (a b : Nat) (g : Nat → Nat) (q : Nat) (hq : q < 24) (x : Nat) : (pl a b g).setIfInBounds (2 + q) (.int .u32 x) = pl a b (fun j => if j = q then x else g j) := by
  unfold pl
  rw [pcells_set _ _ _ q hq]
  congr 1
  funext j
  show _ = ((if j = q then x else g j : Nat) : Int)
  split <;> rfl
def zerosP : Array Value := pcells 0 0 (fun _ => 0)
/-- a plane's words fit -/
def PlW (g : Nat → Nat) : Prop := ∀ j, g j < 16777216
def jnW (k : Nat) (W V : Nat) : Nat := if k = 0 then jW0 W V else if k = 1 then jW1 W V else if k = 2 then jW2 W V else jW3 W V
def jnF (k : Nat) (p q : Bool) : Bool := if k = 0 then jF0 p q else if k = 1 then jF1 p q else if k = 2 then jF2 p q else jF3 p q
theorem jn_bit (k W V x : Nat) (hV : V < 4294967296) (hx : x < 32) : (jnW k W V).testBit x = jnF k (W.testBit x) (V.testBit x) := by
  unfold jnW jnF
  split
  · exact jB0 W V x hV hx
  · split
    · exact jB1 W V x hV hx
    · split
      · exact jB2 W V x hV hx
      · exact jB3 W V x hV hx
theorem jn_lt (k W V : Nat) (hW : W < 16777216) (hV : V < 16777216) : jnW k W V < 16777216 := by
  unfold jnW jW0 jW1 jW2 jW3
  split
  · exact Nat.lt_of_le_of_lt Nat.and_le_left hW
  · split
    · exact Nat.or_lt_two_pow (n := 24) hW hV
    · split
      · exact Nat.xor_lt_two_pow (n := 24) hW hV
      · exact Nat.lt_of_le_of_lt Nat.and_le_left hW
section
variable {P : Program} {ops : Array Oper} {rest : List Oper} {o : Oper} {a : Act} {w : World} {Q : Exit → Act → World → Prop}
/-- a struct is built, as is known beforehand -/
theorem wpList_build_as (hg : o.guard = none) (t : TypeId) (parts : Array (Nat × Operand)) (ho : o.op = .build t parts) (vals : List (Nat × Value)) (cells : Array Value)
    (hv : parts.toList.map (fun (i, x) => (i, a.eval x)) = vals) (hb : P.built t vals = some cells) (h : wpList P ops Q rest (a.put o.dst (.agg cells)) w) : wpList P ops Q (o :: rest) a w :=
  wpList_build hg t parts ho (by rw [Array.toList_map, hv, hb]; rfl) (by rw [Array.toList_map, hv, hb]; exact h)
end
/-! ### the plane of a matrix -/
def plOf (g : Nat → Nat) (Y j : Nat) : Nat := if 4 ≤ j ∧ j < 4 + Y then g (j - 4) * 16 else 0
theorem plOf_zero (g : Nat → Nat) (a b : Nat) : pl a b (plOf g 0) = pcells a b (fun _ => 0) := by
  unfold pl
  refine pcells_congr _ _ (fun j _ => ?_)
  unfold plOf
  rw [if_neg (by omega)]
  rfl
theorem plOf_step (g : Nat → Nat) (a b y : Nat) (hy : y < 16) : (pl a b (plOf g y)).setIfInBounds (2 + (y + 4)) (.int .u32 ((g y * 16 : Nat) : Int)) = pl a b (plOf g (y + 1)) := by
  rw [pl_put a b _ (y + 4) (by omega)]
  refine pl_congr a b (fun j hj => ?_)
  unfold plOf
  by_cases h : j = y + 4
  · subst h
    rw [if_pos rfl, if_pos (by omega)]
    congr 2
  · rw [if_neg h]
    by_cases h2 : 4 ≤ j ∧ j < 4 + y
    · rw [if_pos h2, if_pos (by omega)]
    · rw [if_neg h2, if_neg (by omega)]

end Go.Proofs.YtnmnlbgialolhaaDoor
