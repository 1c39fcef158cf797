/- Contracts of single functions, and plain lemmas, on which the exact laws of this seat rest; each holds under the conditions that it states. -/
import Derived.Test.YtnmnlbgialolhaaDoorPb
import Derived.Deep.MidRow
import Derived.Test.YtnmnlbgialolhaaDoorSb
import Derived.RegionTactic
import Derived.BigRegion
import Derived.Test.YtnmnlbgialolhaaDoorCa
namespace Go.Proofs.YtnmnlbgialolhaaDoor
set_option linter.unusedVariables false
open Go.RowKit

theorem words_lt_pow {ss : List ByteArray} (V : VP ss) (j : Nat) : wordsOf ss j < 2 ^ (row0 ss).size := by
  unfold wordsOf
  split
  · rename_i h
    unfold rowWord
    rw [(V.rows j h).1]
    exact wordF_lt _ _
  · exact Nat.pow_pos (by omega)

theorem words_small {ss : List ByteArray} (V : VP ss) (j : Nat) : wordsOf ss j < 65536 := by
  have h1 := words_lt_pow V j
  have h2 : 2 ^ (row0 ss).size ≤ 2 ^ 16 := Nat.pow_le_pow_right (by omega) V.w16
  omega

/-- the words of a matrix as an array -/
def rowsL (g : Nat → Nat) : List Value := (List.range 16).map fun j => Value.int .u32 (g j)
theorem rowsL_len (g : Nat → Nat) : (rowsL g).length = 16 := by simp [rowsL]
theorem rowsL_at (g : Nat → Nat) (j : Nat) (h : j < 16) : (rowsL g).toArray[j]? = some (.int .u32 (g j)) := by simp [rowsL, h]
theorem rowsL_range {W : World} {t a b : Nat} {g : Nat → Nat} (h : W.heap[t]? = some (.cells (mat a b g) 63 (0, 0))) : W.rangeAt t 2 (rowsL g) := fun j v hv => by
  have hj : j < 16 := by
    have := (List.getElem?_eq_some_iff.1 hv).1
    rwa [rowsL_len] at this
  rw [Joins.cell_of_block h (2 + j)]
  have h1 := mcells_word a b (fun j => ((g j : Nat) : Int)) j hj
  have h2 : (rowsL g)[j]? = some (.int .u32 (g j)) := by simp [rowsL, hj]
  rw [h2] at hv
  obtain rfl := Option.some.inj hv
  exact h1
theorem infoRows : (Tryd.prog.info? 61).map (·.size) = some 16 := by kernel_rfl

theorem run_index_rows (cs : Array Value) (i : Nat) (v : Value) (w : World) (hi : i < 16) (hv : cs[i]? = some v) : (Instr.index 61 (.agg cs) (.int .i64 i)).run Tryd.prog w = .ok v w := by
  have h : Tryd.prog.underlying 61 = some (.array 16 60) := Tryd.underlying61
  have h1 : ∀ w, (sizeOf 60).run Tryd.prog w = .ok 1 w := fun _ => by kernel_rfl
  have h2 : ∀ w, (isAgg 60).run Tryd.prog w = .ok false w := fun _ => by kernel_rfl
  have hn : (0 : Int) ≤ (i : Int) ∧ (i : Int) < ((16 : Nat) : Int) := by omega
  simp [Instr.index, run_underlying h, asIntOf, hn, go_sem, hv, h1, h2, hi]
end Go.Proofs.YtnmnlbgialolhaaDoor

/- Contracts of single functions, and plain lemmas, on which the exact laws of this seat rest; each holds under the conditions that it states. -/
namespace Go.Proofs.YtnmnlbgialolhaaDoor
set_option linter.unusedVariables false
open Go.RowKit

theorem mask_val (a : Nat) (ha : a ≤ 16) : ((2 : Int) ^ a % 4294967296 - 1) % 4294967296 = ((2 ^ a - 1 : Nat) : Int) := by
  have h : 2 ^ a ≤ 2 ^ 16 := Nat.pow_le_pow_right (by omega) ha
  have h0 : 0 < 2 ^ a := Nat.pow_pos (by omega)
  have e : ((2 : Int) ^ a) = ((2 ^ a : Nat) : Int) := by push_cast; rfl
  rw [e]
  obtain ⟨K, hK⟩ : ∃ K, 2 ^ a = K := ⟨_, rfl⟩
  rw [hK] at h h0 ⊢
  omega

end Go.Proofs.YtnmnlbgialolhaaDoor

/- Contracts of single functions, and plain lemmas, on which the exact laws of this seat rest; each holds under the conditions that it states. -/
namespace Go.Proofs.YtnmnlbgialolhaaDoor
set_option linter.unusedVariables false
open Go.RowKit

theorem mat_put (a b : Nat) (g : Nat → Nat) (q : Nat) (hq : q < 16) (x : Nat) : (mat a b g).setIfInBounds (2 + q) (.int .u32 x) = mat a b (fun j => if j = q then x else g j) := by
  unfold mat
  rw [mcells_set _ _ _ q hq]
  congr 1
  funext j
  show _ = ((if j = q then x else g j : Nat) : Int)
  split <;> rfl

section
variable {P : Program} {ops : Array Oper} {rest : List Oper} {o : Oper} {a : Act} {Q : Exit → Act → World → Prop}
/-- a whole row is stored into the block that was made last, behind another one -/
theorem wpList_store_new2 (w1 : World) (A : Obj) (hgd : o.guard = none) (ty : TypeId) (x y : Operand) (ho : o.op = .store ty x y)
    (cells : Array Value) (hx : a.eval x = .pointer (some ⟨w1.heap.size + 1, 0, none⟩)) (hy : a.eval y = .agg cells)
    (t : TypeId) (old : Array Value) (hi : (P.info? ty).map (·.size) = some cells.size)
    (hold : old.size = cells.size) (h1 : cells.all (·.oneCell') = true)
    (h : wpList P ops Q rest (a.put o.dst undef) ((w1.alloc A).alloc (.cells cells t))) : wpList P ops Q (o :: rest) a ((w1.alloc A).alloc (.cells old t)) :=
  wpList_store_new (w1.alloc A) hgd ty x y ho cells (by rw [World.size_alloc]; exact hx) hy t old hi hold h1 h
end

/-- a word shifted and cut -/
def shW (W : Nat) (dx : Int) (a : Nat) : Nat := (if 0 ≤ dx then W * 2 ^ dx.toNat % 4294967296 else W / 2 ^ (-dx).toNat) &&& (2 ^ a - 1)
def shG (g : Nat → Nat) (a b : Nat) (dx dy : Int) (Y j : Nat) : Nat := if j < Y then (if hasB a b 0 ((j : Int) - dy) then shW (g ((j : Int) - dy).toNat) dx a else 0) else 0

theorem shW_lt (W a : Nat) (dx : Int) (ha : a ≤ 16) : shW W dx a < 4294967296 := by
  have h : 2 ^ a ≤ 2 ^ 16 := Nat.pow_le_pow_right (by omega) ha
  have h0 : 0 < 2 ^ a := Nat.pow_pos (by omega)
  unfold shW
  exact Nat.lt_of_le_of_lt Nat.and_le_right (by omega)
theorem shG_lt (g : Nat → Nat) (a b : Nat) (dx dy : Int) (Y j : Nat) (ha : a ≤ 16) : shG g a b dx dy Y j < 4294967296 := by
  unfold shG
  split
  · split
    · exact shW_lt _ _ _ ha
    · omega
  · omega

theorem shW_eq (W a : Nat) (dx : Int) (hW : W < 4294967296) (ha : a ≤ 16) :
    bits .and .u32 ((W : Int) * (2 : Int) ^ (max dx 0).toNat % 4294967296 / (2 : Int) ^ (max (-dx) 0).toNat) (((2 : Int) ^ a - 1) % 4294967296) = ((shW W dx a : Nat) : Int) := by
  have h : 2 ^ a ≤ 2 ^ 16 := Nat.pow_le_pow_right (by omega) ha
  have h0 : 0 < 2 ^ a := Nat.pow_pos (by omega)
  have em : (((2 : Int) ^ a - 1) % 4294967296) = ((2 ^ a - 1 : Nat) : Int) := by
    have e : ((2 : Int) ^ a) = ((2 ^ a : Nat) : Int) := by push_cast; rfl
    rw [e]
    obtain ⟨K, hK⟩ : ∃ K, 2 ^ a = K := ⟨_, rfl⟩
    rw [hK] at h h0 ⊢
    omega
  rw [em]
  unfold shW
  by_cases hd : 0 ≤ dx
  · rw [if_pos hd, show (max dx 0) = dx from by omega, show (max (-dx) 0) = 0 from by omega]
    have e1 : (W : Int) * (2 : Int) ^ dx.toNat % 4294967296 / (2 : Int) ^ (0 : Int).toNat = ((W * 2 ^ dx.toNat % 4294967296 : Nat) : Int) := by
      rw [show (2 : Int) ^ (0 : Int).toNat = 1 from rfl, Int.ediv_one, Int.natCast_emod, Int.natCast_mul, Int.natCast_pow]; rfl
    rw [e1]
    exact u32_and_nat _ _ (Nat.mod_lt _ (by omega)) (by omega)
  · rw [if_neg hd, show (max dx 0) = 0 from by omega, show (max (-dx) 0) = -dx from by omega]
    have e1 : (W : Int) * (2 : Int) ^ (0 : Int).toNat % 4294967296 / (2 : Int) ^ (-dx).toNat = ((W / 2 ^ (-dx).toNat : Nat) : Int) := by
      rw [show (2 : Int) ^ (0 : Int).toNat = 1 from rfl, Int.mul_one, Int.emod_eq_of_lt (by omega) (by omega), Int.natCast_ediv, Int.natCast_pow]; rfl
    rw [e1]
    exact u32_and_nat _ _ (Nat.lt_of_le_of_lt (Nat.div_le_self _ _) hW) (by omega)

theorem shW_bit (W a : Nat) (dx : Int) (x : Nat) (hW : W < 2 ^ a) (ha : a ≤ 16) (hx : x < a) (h1 : -16 ≤ dx) (h2 : dx ≤ 16) :
    (shW W dx a).testBit x = (decide (0 ≤ (x : Int) - dx) && decide ((x : Int) - dx < a) && W.testBit ((x : Int) - dx).toNat) := by
  unfold shW
  rw [Nat.testBit_and, Nat.testBit_two_pow_sub_one, decide_eq_true hx, Bool.and_true]
  have hp : 2 ^ a ≤ 2 ^ 16 := Nat.pow_le_pow_right (by omega) ha
  by_cases h : 0 ≤ dx
  · rw [if_pos h]
    obtain ⟨p, rfl⟩ := Int.eq_ofNat_of_zero_le h
    rw [Int.toNat_natCast]
    have hp2 : 2 ^ p ≤ 2 ^ 16 := Nat.pow_le_pow_right (by omega) (by omega)
    have hlt : W * 2 ^ p < 4294967296 := by
      have : W * 2 ^ p ≤ (2 ^ 16 - 1) * 2 ^ 16 := Nat.mul_le_mul (by omega) hp2
      omega
    rw [Nat.mod_eq_of_lt hlt, Nat.testBit_mul_two_pow]
    by_cases hpx : p ≤ x
    · rw [decide_eq_true hpx, show decide ((0 : Int) ≤ (x : Int) - (p : Int)) = true from decide_eq_true (by omega), show decide ((x : Int) - (p : Int) < (a : Int)) = true from decide_eq_true (by omega)]
      rw [show ((x : Int) - (p : Int)).toNat = x - p from by omega]
      simp
    · rw [decide_eq_false hpx, show decide ((0 : Int) ≤ (x : Int) - (p : Int)) = false from decide_eq_false (by omega)]
      simp
  · rw [if_neg h]
    obtain ⟨p, hp3⟩ := Int.eq_ofNat_of_zero_le (show 0 ≤ -dx by omega)
    obtain rfl : dx = -(p : Int) := by omega
    rw [show (-(-(p : Int))).toNat = p from by omega, Nat.testBit_div_two_pow, show decide ((0 : Int) ≤ (x : Int) - -(p : Int)) = true from decide_eq_true (by omega)]
    rw [show ((x : Int) - -(p : Int)).toNat = x + p from by omega]
    by_cases hxa : x + p < a
    · rw [show decide ((x : Int) - -(p : Int) < (a : Int)) = true from decide_eq_true (by omega)]
      simp
    · rw [show decide ((x : Int) - -(p : Int) < (a : Int)) = false from decide_eq_false (by omega)]
      have : 2 ^ a ≤ 2 ^ (x + p) := Nat.pow_le_pow_right (by omega) (by omega)
      rw [Nat.testBit_lt_two_pow (by omega)]
      simp

theorem sh_bits {ss : List ByteArray} (V : VP ss) (dx dy : Int) (h1 : -16 ≤ dx) (h2 : dx ≤ 16) (y x : Nat) (hy : y < ss.length) (hx : x < (row0 ss).size) :
    blackB (row0 ss).size ss.length (shG (wordsOf ss) (row0 ss).size ss.length dx dy ss.length) x y = shF ss dx dy y x := by
  have hh : hasB (row0 ss).size ss.length x y = true := by rw [hasB_insB]; exact in_range hx hy
  have hw1 := V.w1
  unfold shF
  rw [← words_bit V]
  unfold blackB shG
  rw [hh, Bool.true_and, Int.toNat_natCast, Int.toNat_natCast, if_pos hy]
  unfold hasB
  have e0 : decide ((0 : Int) < ((row0 ss).size : Int)) = true := decide_eq_true (by omega)
  by_cases hq : 0 ≤ (y : Int) - dy ∧ (y : Int) - dy < ss.length
  · rw [decide_eq_true hq.1, decide_eq_true hq.2, e0]
    simp only [Bool.and_self, decide_true, if_true, Int.le_refl, Bool.and_true]
    rw [shW_bit _ _ _ _ (words_lt_pow V _) V.w16 hx h1 h2]
  · have : (decide (0 ≤ (y : Int) - dy) && decide ((y : Int) - dy < (ss.length : Int))) = false := by simp; omega
    rcases Bool.and_eq_false_iff.1 this with h | h
    · rw [h]; simp
    · rw [h]; simp

theorem shG_skip (g : Nat → Nat) (a b : Nat) (dx dy : Int) (y : Nat) (h : hasB a b 0 ((y : Int) - dy) = false) : shG g a b dx dy (y + 1) = shG g a b dx dy y := by
  funext j
  unfold shG
  by_cases hj : j = y
  · subst hj
    rw [if_pos (show j < j + 1 by omega), if_neg (show ¬ j < j by omega), h]; rfl
  · by_cases h2 : j < y
    · rw [if_pos (show j < y + 1 by omega), if_pos h2]
    · rw [if_neg (show ¬ j < y + 1 by omega), if_neg h2]
theorem shG_step (g : Nat → Nat) (a b : Nat) (dx dy : Int) (y q : Nat) (h : hasB a b 0 ((y : Int) - dy) = true) (hq : (y : Int) - dy = q) : (fun j => if j = y then shW (g q) dx a else shG g a b dx dy y j) = shG g a b dx dy (y + 1) := by
  funext j
  unfold shG
  by_cases hj : j = y
  · subst hj
    rw [if_pos rfl, if_pos (show j < j + 1 by omega), h, if_pos rfl, hq, Int.toNat_natCast]
  · rw [if_neg hj]
    by_cases h2 : j < y
    · rw [if_pos (show j < y + 1 by omega), if_pos h2]
    · rw [if_neg (show ¬ j < y + 1 by omega), if_neg h2]
theorem shG_zero (g : Nat → Nat) (a b : Nat) (dx dy : Int) : shG g a b dx dy 0 = fun _ => 0 := by
  funext j; unfold shG; rw [if_neg (by omega)]
end Go.Proofs.YtnmnlbgialolhaaDoor

/- Contracts of single functions, and plain lemmas, on which the exact laws of this seat rest; each holds under the conditions that it states. -/
namespace Go.Proofs.YtnmnlbgialolhaaDoor
set_option linter.unusedVariables false
open Go.RowKit

/-- the black pixels of the first rows -/
def rs (g : Nat → Nat) : Nat → Nat
  | 0 => 0
  | y + 1 => rs g y + bs (g y) 16
theorem rs_succ (g : Nat → Nat) (y : Nat) : rs g (y + 1) = rs g y + bs (g y) 16 := rfl
theorem rs_le (g : Nat → Nat) : ∀ y, rs g y ≤ 16 * y
  | 0 => Nat.le_refl _
  | y + 1 => by have := rs_le g y; have := bs_le (g y) 16; rw [rs_succ]; omega
theorem bs_more {W k : Nat} (h : W < 2 ^ k) : ∀ d, bs W (k + d) = bs W k
  | 0 => rfl
  | d + 1 => by
    rw [show k + (d + 1) = (k + d) + 1 from by omega, bs_succ, bs_more h d]
    have : 2 ^ k ≤ 2 ^ (k + d) := Nat.pow_le_pow_right (by omega) (by omega)
    rw [Nat.testBit_lt_two_pow (by omega)]
    simp
theorem bs_row {ss : List ByteArray} (V : VP ss) (y : Nat) : bs (wordsOf ss y) 16 = bs (wordsOf ss y) (row0 ss).size := by
  have := bs_more (words_lt_pow V y) (16 - (row0 ss).size)
  rwa [show (row0 ss).size + (16 - (row0 ss).size) = 16 from by have := V.w16; omega] at this
theorem bs_zero : ∀ k, bs 0 k = 0
  | 0 => rfl
  | k + 1 => by rw [bs_succ, bs_zero k]; simp
theorem rs_more (ss : List ByteArray) : ∀ d, rs (wordsOf ss) (ss.length + d) = rs (wordsOf ss) ss.length
  | 0 => rfl
  | d + 1 => by
    rw [show ss.length + (d + 1) = (ss.length + d) + 1 from by omega, rs_succ, rs_more ss d]
    have : wordsOf ss (ss.length + d) = 0 := by unfold wordsOf; rw [if_neg (by omega)]
    rw [this, bs_zero, Nat.add_zero]
theorem rs_all {ss : List ByteArray} (V : VP ss) : rs (wordsOf ss) 16 = rs (wordsOf ss) ss.length := by
  have := rs_more ss (16 - ss.length)
  rwa [show ss.length + (16 - ss.length) = 16 from by have := V.n16; omega] at this

end Go.Proofs.YtnmnlbgialolhaaDoor

/- Contracts of single functions, and plain lemmas, on which the exact laws of this seat rest; each holds under the conditions that it states. -/
namespace Go.Proofs.YtnmnlbgialolhaaDoor
set_option linter.unusedVariables false
open Go.RowKit

/-- a number and a bool handed back -/
def SaysIB (n : Int) (ok : Bool) (w : World) (e : Ending) (w' : World) : Prop := e = .returned (.tuple #[.int .i64 n, .bool ok]) ∧ Below w.heap.size w w'
theorem ret_ib {a c : Int} {b d : Bool} (h1 : a = c) (h2 : b = d) : Ending.returned (.tuple #[.int .i64 a, .bool b]) = .returned (.tuple #[.int .i64 c, .bool d]) := by rw [h1, h2]

def cbV (ss : List ByteArray) : Int := if validB ss then ((rs (wordsOf ss) ss.length : Nat) : Int) else 0

end Go.Proofs.YtnmnlbgialolhaaDoor
