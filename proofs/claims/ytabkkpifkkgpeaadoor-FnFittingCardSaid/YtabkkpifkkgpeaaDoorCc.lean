/- Contracts of single functions, and plain lemmas, on which the exact laws of this seat rest; each holds under the conditions that it states. -/
import Derived.Test.YtabkkpifkkgpeaaDoorSp
import Derived.Test.YtabkkpifkkgpeaaDoorLf
import Derived.Test.YtabkkpifkkgpeaaDoorPb
import Derived.Deep.MidRow
import Derived.Test.YtabkkpifkkgpeaaDoorMm
import Derived.RegionTactic
import Derived.BigRegion
import Derived.BigQuiet
import Derived.Deep.QuietTactic
import Derived.Lib.Tables
import Derived.Lib.BitFns
namespace Go.Proofs.YtabkkpifkkgpeaaDoor
set_option linter.unusedVariables false
open Go.RowKit

/-- a shifted pixel -/
def shF (ss : List ByteArray) (dx dy : Int) (y x : Nat) : Bool := pixI ss ((x : Int) - dx) ((y : Int) - dy)

end Go.Proofs.YtabkkpifkkgpeaaDoor

/- Contracts of single functions, and plain lemmas, on which the exact laws of this seat rest; each holds under the conditions that it states. -/
namespace Go.Proofs.YtabkkpifkkgpeaaDoor
set_option linter.unusedVariables false
open Go.RowKit

def shOk (ss : List ByteArray) (dx dy : Int) : Bool := validB ss && inB dx (-16) 16 && inB dy (-16) 16
def shP (ss : List ByteArray) (dx dy : Int) : List ByteArray := if shOk ss dx dy then mkPic (row0 ss).size ss.length (shF ss dx dy) else []

end Go.Proofs.YtabkkpifkkgpeaaDoor

/- Contracts of single functions, and plain lemmas, on which the exact laws of this seat rest; each holds under the conditions that it states. -/
namespace Go.Proofs.YtabkkpifkkgpeaaDoor
set_option linter.unusedVariables false
open Go.RowKit

theorem words_lt_pow {ss : List ByteArray} (V : VP ss) (j : Nat) : wordsOf ss j < 2 ^ (row0 ss).size := by
  unfold wordsOf
  split
  · rename_i h
    unfold rowWord
    rw [(V.rows j h).1]
    exact wordF_lt _ _
  · exact Nat.pow_pos (by omega)

theorem words_small {ss : List ByteArray} (V : VP ss) (j : Nat) : wordsOf ss j < 65536 := by
  have h1 := words_lt_pow V j
  have h2 : 2 ^ (row0 ss).size ≤ 2 ^ 16 := Nat.pow_le_pow_right (by omega) V.w16
  omega

/-- the words of a matrix as an array -/
def rowsL (g : Nat → Nat) : List Value := (List.range 16).map fun j => Value.int .u32 (g j)
theorem rowsL_len (g : Nat → Nat) : (rowsL g).length = 16 := by simp [rowsL]
theorem rowsL_at (g : Nat → Nat) (j : Nat) (h : j < 16) : (rowsL g).toArray[j]? = some (.int .u32 (g j)) := by simp [rowsL, h]
theorem rowsL_range {W : World} {t a b : Nat} {g : Nat → Nat} (h : W.heap[t]? = some (.cells (mat a b g) 96 (0, 0))) : W.rangeAt t 2 (rowsL g) := fun j v hv => by
  have hj : j < 16 := by
    have := (List.getElem?_eq_some_iff.1 hv).1
    rwa [rowsL_len] at this
  rw [Joins.cell_of_block h (2 + j)]
  have h1 := mcells_word a b (fun j => ((g j : Nat) : Int)) j hj
  have h2 : (rowsL g)[j]? = some (.int .u32 (g j)) := by simp [rowsL, hj]
  rw [h2] at hv
  obtain rfl := Option.some.inj hv
  exact h1
theorem infoRows : (Tryd.prog.info? 94).map (·.size) = some 16 := by kernel_rfl

theorem run_index_rows (cs : Array Value) (i : Nat) (v : Value) (w : World) (hi : i < 16) (hv : cs[i]? = some v) : (Instr.index 94 (.agg cs) (.int .i64 i)).run Tryd.prog w = .ok v w := by
  have h : Tryd.prog.underlying 94 = some (.array 16 93) := Tryd.underlying94
  have h1 : ∀ w, (sizeOf 93).run Tryd.prog w = .ok 1 w := fun _ => by kernel_rfl
  have h2 : ∀ w, (isAgg 93).run Tryd.prog w = .ok false w := fun _ => by kernel_rfl
  have hn : (0 : Int) ≤ (i : Int) ∧ (i : Int) < ((16 : Nat) : Int) := by omega
  simp [Instr.index, run_underlying h, asIntOf, hn, go_sem, hv, h1, h2, hi]
end Go.Proofs.YtabkkpifkkgpeaaDoor

/- Contracts of single functions, and plain lemmas, on which the exact laws of this seat rest; each holds under the conditions that it states. -/
namespace Go.Proofs.YtabkkpifkkgpeaaDoor
set_option linter.unusedVariables false
open Go.RowKit

theorem mat_put (a b : Nat) (g : Nat → Nat) (q : Nat) (hq : q < 16) (x : Nat) : (mat a b g).setIfInBounds (2 + q) (.int .u32 x) = mat a b (fun j => if j = q then x else g j) := by
  unfold mat
  rw [mcells_set _ _ _ q hq]
  congr 1
  funext j
  show _ = ((if j = q then x else g j : Nat) : Int)
  split <;> rfl

section
variable {P : Program} {ops : Array Oper} {rest : List Oper} {o : Oper} {a : Act} {Q : Exit → Act → World → Prop}
/-- a whole row is stored into the block that was made last, behind another one -/
theorem wpList_store_new2 (w1 : World) (A : Obj) (hgd : o.guard = none) (ty : TypeId) (x y : Operand) (ho : o.op = .store ty x y)
    (cells : Array Value) (hx : a.eval x = .pointer (some ⟨w1.heap.size + 1, 0, none⟩)) (hy : a.eval y = .agg cells)
    (t : TypeId) (old : Array Value) (hi : (P.info? ty).map (·.size) = some cells.size)
    (hold : old.size = cells.size) (h1 : cells.all (·.oneCell') = true)
    (h : wpList P ops Q rest (a.put o.dst undef) ((w1.alloc A).alloc (.cells cells t))) : wpList P ops Q (o :: rest) a ((w1.alloc A).alloc (.cells old t)) :=
  wpList_store_new (w1.alloc A) hgd ty x y ho cells (by rw [World.size_alloc]; exact hx) hy t old hi hold h1 h
end

/-- a word shifted and cut -/
def shW (W : Nat) (dx : Int) (a : Nat) : Nat := (if 0 ≤ dx then W * 2 ^ dx.toNat % 4294967296 else W / 2 ^ (-dx).toNat) &&& (2 ^ a - 1)
def shG (g : Nat → Nat) (a b : Nat) (dx dy : Int) (Y j : Nat) : Nat := if j < Y then (if hasB a b 0 ((j : Int) - dy) then shW (g ((j : Int) - dy).toNat) dx a else 0) else 0

theorem shW_lt (W a : Nat) (dx : Int) (ha : a ≤ 16) : shW W dx a < 4294967296 := by
  have h : 2 ^ a ≤ 2 ^ 16 := Nat.pow_le_pow_right (by omega) ha
  have h0 : 0 < 2 ^ a := Nat.pow_pos (by omega)
  unfold shW
  exact Nat.lt_of_le_of_lt Nat.and_le_right (by omega)
theorem shG_lt (g : Nat → Nat) (a b : Nat) (dx dy : Int) (Y j : Nat) (ha : a ≤ 16) : shG g a b dx dy Y j < 4294967296 := by
  unfold shG
  split
  · split
    · exact shW_lt _ _ _ ha
    · omega
  · omega

theorem shW_eq (W a : Nat) (dx : Int) (hW : W < 4294967296) (ha : a ≤ 16) :
    bits .and .u32 ((W : Int) * (2 : Int) ^ (max dx 0).toNat % 4294967296 / (2 : Int) ^ (max (-dx) 0).toNat) (((2 : Int) ^ a - 1) % 4294967296) = ((shW W dx a : Nat) : Int) := by
  have h : 2 ^ a ≤ 2 ^ 16 := Nat.pow_le_pow_right (by omega) ha
  have h0 : 0 < 2 ^ a := Nat.pow_pos (by omega)
  have em : (((2 : Int) ^ a - 1) % 4294967296) = ((2 ^ a - 1 : Nat) : Int) := by
    have e : ((2 : Int) ^ a) = ((2 ^ a : Nat) : Int) := by push_cast; rfl
    rw [e]
    obtain ⟨K, hK⟩ : ∃ K, 2 ^ a = K := ⟨_, rfl⟩
    rw [hK] at h h0 ⊢
    omega
  rw [em]
  unfold shW
  by_cases hd : 0 ≤ dx
  · rw [if_pos hd, show (max dx 0) = dx from by omega, show (max (-dx) 0) = 0 from by omega]
    have e1 : (W : Int) * (2 : Int) ^ dx.toNat % 4294967296 / (2 : Int) ^ (0 : Int).toNat = ((W * 2 ^ dx.toNat % 4294967296 : Nat) : Int) := by
      rw [show (2 : Int) ^ (0 : Int).toNat = 1 from rfl, Int.ediv_one, Int.natCast_emod, Int.natCast_mul, Int.natCast_pow]; rfl
    rw [e1]
    exact u32_and_nat _ _ (Nat.mod_lt _ (by omega)) (by omega)
  · rw [if_neg hd, show (max dx 0) = 0 from by omega, show (max (-dx) 0) = -dx from by omega]
    have e1 : (W : Int) * (2 : Int) ^ (0 : Int).toNat % 4294967296 / (2 : Int) ^ (-dx).toNat = ((W / 2 ^ (-dx).toNat : Nat) : Int) := by
      rw [show (2 : Int) ^ (0 : Int).toNat = 1 from rfl, Int.mul_one, Int.emod_eq_of_lt (by omega) (by omega), Int.natCast_ediv, Int.natCast_pow]; rfl
    rw [e1]
    exact u32_and_nat _ _ (Nat.lt_of_le_of_lt (Nat.div_le_self _ _) hW) (by omega)

theorem shW_bit (W a : Nat) (dx : Int) (x : Nat) (hW : W < 2 ^ a) (ha : a ≤ 16) (hx : x < a) (h1 : -16 ≤ dx) (h2 : dx ≤ 16) :
    (shW W dx a).testBit x = (decide (0 ≤ (x : Int) - dx) && decide ((x : Int) - dx < a) && W.testBit ((x : Int) - dx).toNat) := by
  unfold shW
  rw [Nat.testBit_and, Nat.testBit_two_pow_sub_one, decide_eq_true hx, Bool.and_true]
  have hp : 2 ^ a ≤ 2 ^ 16 := Nat.pow_le_pow_right (by omega) ha
  by_cases h : 0 ≤ dx
  · rw [if_pos h]
    obtain ⟨p, rfl⟩ := Int.eq_ofNat_of_zero_le h
    rw [Int.toNat_natCast]
    have hp2 : 2 ^ p ≤ 2 ^ 16 := Nat.pow_le_pow_right (by omega) (by omega)
    have hlt : W * 2 ^ p < 4294967296 := by
      have : W * 2 ^ p ≤ (2 ^ 16 - 1) * 2 ^ 16 := Nat.mul_le_mul (by omega) hp2
      omega
    rw [Nat.mod_eq_of_lt hlt, Nat.testBit_mul_two_pow]
    by_cases hpx : p ≤ x
    · rw [decide_eq_true hpx, show decide ((0 : Int) ≤ (x : Int) - (p : Int)) = true from decide_eq_true (by omega), show decide ((x : Int) - (p : Int) < (a : Int)) = true from decide_eq_true (by omega)]
      rw [show ((x : Int) - (p : Int)).toNat = x - p from by omega]
      simp
    · rw [decide_eq_false hpx, show decide ((0 : Int) ≤ (x : Int) - (p : Int)) = false from decide_eq_false (by omega)]
      simp
  · rw [if_neg h]
    obtain ⟨p, hp3⟩ := Int.eq_ofNat_of_zero_le (show 0 ≤ -dx by omega)
    obtain rfl : dx = -(p : Int) := by omega
    rw [show (-(-(p : Int))).toNat = p from by omega, Nat.testBit_div_two_pow, show decide ((0 : Int) ≤ (x : Int) - -(p : Int)) = true from decide_eq_true (by omega)]
    rw [show ((x : Int) - -(p : Int)).toNat = x + p from by omega]
    by_cases hxa : x + p < a
    · rw [show decide ((x : Int) - -(p : Int) < (a : Int)) = true from decide_eq_true (by omega)]
      simp
    · rw [show decide ((x : Int) - -(p : Int) < (a : Int)) = false from decide_eq_false (by omega)]
      have : 2 ^ a ≤ 2 ^ (x + p) := Nat.pow_le_pow_right (by omega) (by omega)
      rw [Nat.testBit_lt_two_pow (by omega)]
      simp

theorem sh_bits {ss : List ByteArray} (V : VP ss) (dx dy : Int) (h1 : -16 ≤ dx) (h2 : dx ≤ 16) (y x : Nat) (hy : y < ss.length) (hx : x < (row0 ss).size) :
    blackB (row0 ss).size ss.length (shG (wordsOf ss) (row0 ss).size ss.length dx dy ss.length) x y = shF ss dx dy y x := by
  have hh : hasB (row0 ss).size ss.length x y = true := by rw [hasB_insB]; exact in_range hx hy
  have hw1 := V.w1
  unfold shF
  rw [← words_bit V]
  unfold blackB shG
  rw [hh, Bool.true_and, Int.toNat_natCast, Int.toNat_natCast, if_pos hy]
  unfold hasB
  have e0 : decide ((0 : Int) < ((row0 ss).size : Int)) = true := decide_eq_true (by omega)
  by_cases hq : 0 ≤ (y : Int) - dy ∧ (y : Int) - dy < ss.length
  · rw [decide_eq_true hq.1, decide_eq_true hq.2, e0]
    simp only [Bool.and_self, decide_true, if_true, Int.le_refl, Bool.and_true]
    rw [shW_bit _ _ _ _ (words_lt_pow V _) V.w16 hx h1 h2]
  · have : (decide (0 ≤ (y : Int) - dy) && decide ((y : Int) - dy < (ss.length : Int))) = false := by simp; omega
    rcases Bool.and_eq_false_iff.1 this with h | h
    · rw [h]; simp
    · rw [h]; simp

theorem shG_skip (g : Nat → Nat) (a b : Nat) (dx dy : Int) (y : Nat) (h : hasB a b 0 ((y : Int) - dy) = false) : shG g a b dx dy (y + 1) = shG g a b dx dy y := by
  funext j
  unfold shG
  by_cases hj : j = y
  · subst hj
    rw [if_pos (show j < j + 1 by omega), if_neg (show ¬ j < j by omega), h]; rfl
  · by_cases h2 : j < y
    · rw [if_pos (show j < y + 1 by omega), if_pos h2]
    · rw [if_neg (show ¬ j < y + 1 by omega), if_neg h2]
theorem shG_step (g : Nat → Nat) (a b : Nat) (dx dy : Int) (y q : Nat) (h : hasB a b 0 ((y : Int) - dy) = true) (hq : (y : Int) - dy = q) : (fun j => if j = y then shW (g q) dx a else shG g a b dx dy y j) = shG g a b dx dy (y + 1) := by
  funext j
  unfold shG
  by_cases hj : j = y
  · subst hj
    rw [if_pos rfl, if_pos (show j < j + 1 by omega), h, if_pos rfl, hq, Int.toNat_natCast]
  · rw [if_neg hj]
    by_cases h2 : j < y
    · rw [if_pos (show j < y + 1 by omega), if_pos h2]
    · rw [if_neg (show ¬ j < y + 1 by omega), if_neg h2]
theorem shG_zero (g : Nat → Nat) (a b : Nat) (dx dy : Int) : shG g a b dx dy 0 = fun _ => 0 := by
  funext j; unfold shG; rw [if_neg (by omega)]
end Go.Proofs.YtabkkpifkkgpeaaDoor

/- Contracts of single functions, and plain lemmas, on which the exact laws of this seat rest; each holds under the conditions that it states. -/
namespace Go.Proofs.YtabkkpifkkgpeaaDoor
set_option linter.unusedVariables false
open Go.RowKit

/-- how many of the first k bits are set -/
def bs (W : Nat) : Nat → Nat
  | 0 => 0
  | k + 1 => bs W k + if W.testBit k then 1 else 0
theorem bs_succ (W k : Nat) : bs W (k + 1) = bs W k + if W.testBit k then 1 else 0 := rfl
theorem bs_le (W : Nat) : ∀ k, bs W k ≤ k
  | 0 => Nat.le_refl _
  | k + 1 => by have := bs_le W k; rw [bs_succ]; split <;> omega
theorem bs_mod (W : Nat) : ∀ k, k ≤ 8 → bs (W % 256) k = bs W k
  | 0, _ => rfl
  | k + 1, h => by
    rw [bs_succ, bs_succ, bs_mod W k (by omega)]
    have : (W % 256).testBit k = W.testBit k := by
      rw [show (256 : Nat) = 2 ^ 8 from rfl, Nat.testBit_mod_two_pow, decide_eq_true (by omega : k < 8), Bool.true_and]
    rw [this]
theorem bs_div (W : Nat) : ∀ k, bs W (k + 8) = bs W 8 + bs (W / 256) k
  | 0 => by rw [Nat.zero_add]; rfl
  | k + 1 => by
    rw [show k + 1 + 8 = (k + 8) + 1 from by omega, bs_succ W (k + 8), bs_succ (W / 256) k, bs_div W k]
    have : (W / 256).testBit k = W.testBit (k + 8) := by
      rw [show (256 : Nat) = 2 ^ 8 from rfl, Nat.testBit_div_two_pow]
    rw [this]; omega
theorem bs_split (W : Nat) : bs W 16 = bs (W % 256) 8 + bs (W / 256) 8 := by
  rw [bs_mod W 8 (by omega), ← bs_div W 8]
theorem pop8_bs : ∀ b : Fin 256, Lib.pop8 (b.val : Int) = ((bs b.val 8 : Nat) : Int) := by decide +kernel
theorem pop8_nat (b : Nat) (h : b < 256) : Lib.pop8 (b : Int) = ((bs b 8 : Nat) : Int) := pop8_bs ⟨b, h⟩

theorem foldP : (⟨(([0, 1, 1, 2, 1, 2, 2, 3, 1, 2, 2, 3, 2, 3, 3, 4, 1, 2, 2, 3, 2, 3, 3, 4, 2, 3, 3, 4, 3, 4, 4, 5, 1, 2, 2, 3, 2, 3, 3, 4, 2, 3, 3, 4, 3, 4, 4, 5, 2, 3, 3, 4, 3, 4, 4, 5, 3, 4, 4, 5, 4, 5, 5, 6].append [1, 2, 2, 3, 2, 3, 3, 4, 2, 3, 3, 4, 3, 4, 4, 5, 2, 3, 3, 4, 3, 4, 4, 5, 3, 4, 4, 5, 4, 5, 5, 6, 2, 3, 3, 4, 3, 4, 4, 5, 3, 4, 4, 5, 4, 5, 5, 6, 3, 4, 4, 5, 4, 5, 5, 6, 4, 5, 5, 6, 5, 6, 6, 7]).append ([1, 2, 2, 3, 2, 3, 3, 4, 2, 3, 3, 4, 3, 4, 4, 5, 2, 3, 3, 4, 3, 4, 4, 5, 3, 4, 4, 5, 4, 5, 5, 6, 2, 3, 3, 4, 3, 4, 4, 5, 3, 4, 4, 5, 4, 5, 5, 6, 3, 4, 4, 5, 4, 5, 5, 6, 4, 5, 5, 6, 5, 6, 6, 7].append [2, 3, 3, 4, 3, 4, 4, 5, 3, 4, 4, 5, 4, 5, 5, 6, 3, 4, 4, 5, 4, 5, 5, 6, 4, 5, 5, 6, 5, 6, 6, 7, 3, 4, 4, 5, 4, 5, 5, 6, 4, 5, 5, 6, 5, 6, 6, 7, 4, 5, 5, 6, 5, 6, 6, 7, 5, 6, 6, 7, 6, 7, 7, 8])).toArray⟩ : ByteArray) = Lib.pop8tab := by decide +kernel

set_option maxHeartbeats 1000000 in
set_option maxRecDepth 100000 in
theorem onesCount_any (W : Nat) (w : World) (hW : W < 65536) : Calls Tryd.prog 100 #[.int .u32 W] w fun e w' => e = .returned (.int .i64 (bs W 16)) ∧ Below w.heap.size w w' := by
  have hs := bs_split W
  have hh : W / 256 < 256 := by omega
  have hl : W % 256 < 256 := by omega
  have k1 : (W : Int) / 16777216 = 0 := by omega
  have k2 : bits .and .u32 ((W : Int) / 65536) 255 = 0 := by
    rw [show (W : Int) / 65536 = ((0 : Nat) : Int) from by omega, show (255 : Int) = ((255 : Nat) : Int) from rfl, u32_and_nat 0 255 (by omega) (by omega)]; rfl
  have k3 : bits .and .u32 ((W : Int) / 256) 255 = ((W / 256 : Nat) : Int) := by
    rw [show (W : Int) / 256 = ((W / 256 : Nat) : Int) from by omega, show (255 : Int) = ((255 : Nat) : Int) from rfl, u32_and_nat (W / 256) 255 (by omega) (by omega), show 255 = 2 ^ 8 - 1 from rfl, Nat.and_two_pow_sub_one_eq_mod, Nat.mod_eq_of_lt (by omega)]
  have k4 : bits .and .u32 (W : Int) 255 = ((W % 256 : Nat) : Int) := by
    rw [show (255 : Int) = ((255 : Nat) : Int) from rfl, u32_and_nat W 255 (by omega) (by omega), show 255 = 2 ^ 8 - 1 from rfl, Nat.and_two_pow_sub_one_eq_mod]
  obtain ⟨h, hhe⟩ : ∃ h, W / 256 = h := ⟨_, rfl⟩
  obtain ⟨l, hle⟩ : ∃ l, W % 256 = l := ⟨_, rfl⟩
  rw [hhe] at hs hh k3
  rw [hle] at hs hl k4
  have p0 : Lib.pop8 0 = 0 := by decide +kernel
  have p1 := pop8_nat h hh
  have p2 := pop8_nat l hl
  have b1 := bs_le h 8
  have b2 := bs_le l 8
  obtain ⟨x, hx⟩ : ∃ x, bs h 8 = x := ⟨_, rfl⟩
  obtain ⟨y, hy⟩ : ∃ y, bs l 8 = y := ⟨_, rfl⟩
  obtain ⟨z, hz⟩ : ∃ z, bs W 16 = z := ⟨_, rfl⟩
  rw [hx] at hs p1 b1
  rw [hy] at hs p2 b2
  rw [hz] at hs ⊢
  have HS := Lib.hid hs
  have q1 : (0 : Int) ≤ (h : Int) := by omega
  have q2 : (h : Int) ≤ 255 := by omega
  have q3 : (0 : Int) ≤ (l : Int) := by omega
  have q4 : (l : Int) ≤ 255 := by omega
  clear hs hhe hle hx hy hz hh hl
  go_enter Tryd.func100, Tryd.ntmps100
  go_wp2
  simp only [foldP]
  go_quiet (fail)
  go_wp2
  go_ret
  exact ⟨by rw [HS.out]; exact congrArg (fun n => Ending.returned (.int .i64 n)) (by omega), Joins.below_draws _ _ _⟩
end Go.Proofs.YtabkkpifkkgpeaaDoor

/- Contracts of single functions, and plain lemmas, on which the exact laws of this seat rest; each holds under the conditions that it states. -/
namespace Go.Proofs.YtabkkpifkkgpeaaDoor
set_option linter.unusedVariables false
open Go.RowKit

/-- the black pixels of the first rows -/
def rs (g : Nat → Nat) : Nat → Nat
  | 0 => 0
  | y + 1 => rs g y + bs (g y) 16
theorem rs_succ (g : Nat → Nat) (y : Nat) : rs g (y + 1) = rs g y + bs (g y) 16 := rfl
theorem rs_le (g : Nat → Nat) : ∀ y, rs g y ≤ 16 * y
  | 0 => Nat.le_refl _
  | y + 1 => by have := rs_le g y; have := bs_le (g y) 16; rw [rs_succ]; omega
theorem bs_more {W k : Nat} (h : W < 2 ^ k) : ∀ d, bs W (k + d) = bs W k
  | 0 => rfl
  | d + 1 => by
    rw [show k + (d + 1) = (k + d) + 1 from by omega, bs_succ, bs_more h d]
    have : 2 ^ k ≤ 2 ^ (k + d) := Nat.pow_le_pow_right (by omega) (by omega)
    rw [Nat.testBit_lt_two_pow (by omega)]
    simp
theorem bs_row {ss : List ByteArray} (V : VP ss) (y : Nat) : bs (wordsOf ss y) 16 = bs (wordsOf ss y) (row0 ss).size := by
  have := bs_more (words_lt_pow V y) (16 - (row0 ss).size)
  rwa [show (row0 ss).size + (16 - (row0 ss).size) = 16 from by have := V.w16; omega] at this
theorem bs_zero : ∀ k, bs 0 k = 0
  | 0 => rfl
  | k + 1 => by rw [bs_succ, bs_zero k]; simp
theorem rs_more (ss : List ByteArray) : ∀ d, rs (wordsOf ss) (ss.length + d) = rs (wordsOf ss) ss.length
  | 0 => rfl
  | d + 1 => by
    rw [show ss.length + (d + 1) = (ss.length + d) + 1 from by omega, rs_succ, rs_more ss d]
    have : wordsOf ss (ss.length + d) = 0 := by unfold wordsOf; rw [if_neg (by omega)]
    rw [this, bs_zero, Nat.add_zero]
theorem rs_all {ss : List ByteArray} (V : VP ss) : rs (wordsOf ss) 16 = rs (wordsOf ss) ss.length := by
  have := rs_more ss (16 - ss.length)
  rwa [show ss.length + (16 - ss.length) = 16 from by have := V.n16; omega] at this

end Go.Proofs.YtabkkpifkkgpeaaDoor

/- Contracts of single functions, and plain lemmas, on which the exact laws of this seat rest; each holds under the conditions that it states. -/
namespace Go.Proofs.YtabkkpifkkgpeaaDoor
set_option linter.unusedVariables false
open Go.RowKit

/-- a number and a bool handed back -/
def SaysIB (n : Int) (ok : Bool) (w : World) (e : Ending) (w' : World) : Prop := e = .returned (.tuple #[.int .i64 n, .bool ok]) ∧ Below w.heap.size w w'
theorem ret_ib {a c : Int} {b d : Bool} (h1 : a = c) (h2 : b = d) : Ending.returned (.tuple #[.int .i64 a, .bool b]) = .returned (.tuple #[.int .i64 c, .bool d]) := by rw [h1, h2]

def cbV (ss : List ByteArray) : Int := if validB ss then ((rs (wordsOf ss) ss.length : Nat) : Int) else 0

set_option maxHeartbeats 2000000 in
set_option maxRecDepth 100000 in
theorem impl_Count (v : Value) (ss : List ByteArray) (w : World) (hN : ss.length ≤ maxLen) (hz : ∀ s ∈ ss, s.size ≤ maxLen) (hv : Sl w v ss) (he : ErrLen w) :
    Calls Tryd.prog 31 #[.agg #[v]] w (SaysIB (cbV ss) (validB ss) w) := by
  have hb0 := Joins.below_alloc1 w (.cells #[v] 42)
  have C := Lib.hid (matrixOf_any v ss (w.alloc (.cells #[v] 42)) hN hz (hv.below hb0) (he.below hb0))
  have hsz := matC_size ss
  have hone := matC_one ss
  unfold MatOf at C
  have hMM : validB ss = true → matC ss = mat (row0 ss).size ss.length (wordsOf ss) := matC_yes
  obtain ⟨M, hM⟩ : ∃ M, matC ss = M := ⟨_, rfl⟩
  rw [hM] at C hsz hone hMM
  have HI : Hid ((Tryd.prog.info? 96).map (·.size) = some M.size) := by show _ = _; rw [hsz]; exact infoM
  have HZ := Lib.hid (zeros_size.trans hsz.symm)
  have HO := Lib.hid hone
  clear hM hsz hone hb0 hv he
  cases hok : validB ss with
  | false =>
    have e1 : Hid (cbV ss = 0) := by show cbV ss = _; unfold cbV; rw [hok]; rfl
    have HOk := Lib.hid hok
    clear hok hMM
    go_enter Tryd.func31, Tryd.ntmps31
    go_wp2_with fail
    refine C.out.mono ?_
    rintro e w1 ⟨rfl, hb⟩
    rw [HOk.out]
    have HB := Lib.hid hb
    clear hb
    go_wp2_with (refine wpList_store_row rfl 96 _ _ rfl w1.heap.size M rfl rfl 96 zeros (heap_alloc_last w1 _) HI.out HZ.out HO.out ?_)
    go_ret2
    have h1 : Below w.heap.size w w1 := (Joins.below_alloc1 w _).trans (HB.out.mono (by simp))
    exact ⟨ret_ib e1.out.symm rfl, setRow_below (h1.alloc h1.size _) h1.size _⟩
  | true =>
    have V := vp_of hok
    have hMM := hMM hok
    have e1 : Hid (cbV ss = ((rs (wordsOf ss) 16 : Nat) : Int)) := by show cbV ss = _; unfold cbV; rw [hok, rs_all V]; rfl
    have HG : Hid (∀ j, wordsOf ss j < 65536) := fun j => words_small V j
    obtain ⟨g, hg⟩ : ∃ g, wordsOf ss = g := ⟨_, rfl⟩
    rw [hg] at hMM e1 HG
    have HL : Hid (∀ y, rs g y ≤ 16 * y) := fun y => rs_le g y
    have HC : Hid (∀ j W, Calls Tryd.prog 100 #[.int .u32 (g j)] W fun e w' => e = .returned (.int .i64 (bs (g j) 16)) ∧ Below W.heap.size W w') := fun j W => onesCount_any (g j) W (HG.out j)
    have HR : Hid (∀ j, j < 16 → (rowsL g).toArray[j]? = some (.int .u32 (g j))) := fun j hj => rowsL_at g j hj
    have HOk := Lib.hid hok
    have HMM := Lib.hid hMM
    clear hok V hMM hg
    go_enter Tryd.func31, Tryd.ntmps31
    go_wp2_with fail
    refine C.out.mono ?_
    rintro e w1 ⟨rfl, hb⟩
    rw [HOk.out]
    have HB : Hid (Below w.heap.size w w1) := (Joins.below_alloc1 w (.cells #[v] 42)).trans (hb.mono (by simp))
    have hs1 := HB.out.size
    have hm0 : (w1.alloc (.cells M 96)).heap[w1.heap.size]? = some (.cells (mat (row0 ss).size ss.length g) 96 (0, 0)) := by rw [← HMM.out]; exact heap_alloc_last w1 _
    have HRA := Lib.hid (rowsL_range hm0)
    have HRL := Lib.hid (infoRows.trans (congrArg some (rowsL_len g).symm))
    obtain ⟨R, hR⟩ : ∃ R, rowsL g = R := ⟨_, rfl⟩
    rw [hR] at HRA HRL HR
    obtain ⟨RA, hRA⟩ : ∃ RA, R.toArray = RA := ⟨_, rfl⟩
    have HRe := Lib.hid hRA
    rw [hRA] at HR
    clear hb hm0 hR hRA
    go_wp2_with (first | (refine wpList_store_new w1 rfl 96 _ _ rfl M rfl rfl 96 zeros HI.out HZ.out HO.out ?_) | (refine wpList_load_mid rfl 94 _ rfl w1.heap.size 2 rfl R _ HRA.out Tryd.underlying94 rfl HRL.out ?_; rw [HRe.out]))
    go_loopw [6, 18] (fun nv iv wr => ∃ i : Nat, i ≤ 16 ∧ iv = .int .i64 i ∧ nv = .int .i64 (rs g i) ∧ Below w1.heap.size w1 wr) (fun _ iv _ => 16 - (intOf iv).toNat)
    case atStart => exact ⟨0, Nat.zero_le _, rfl, rfl, Joins.below_alloc1 _ _⟩
    case round =>
      obtain ⟨i, hi, rfl, rfl, hbel⟩ := hrel
      have HBe := Lib.hid hbel
      have hs := hbel.size
      clear hbel
      by_cases hlt : i < 16
      · have ki : (i : Int) < 16 := by omega
        have hri := HR.out i hlt
        have hci := HC.out i
        have hrs := rs_succ g i
        have hle := HL.out i
        have hbl := bs_le (g i) 16
        have hix := fun w => run_index_rows RA i _ w hlt hri
        obtain ⟨W, hW⟩ : ∃ W, g i = W := ⟨_, rfl⟩
        rw [hW] at hri hix hci hrs hbl
        obtain ⟨q, hq⟩ : ∃ q, bs W 16 = q := ⟨_, rfl⟩
        rw [hq] at hci hrs hbl
        obtain ⟨r, hr⟩ : ∃ r, rs g i = r := ⟨_, rfl⟩
        rw [hr] at hrs hle ⊢
        have HCI := Lib.hid hci
        have HRS := Lib.hid hrs
        have kq : (q : Int) ≤ 16 := by omega
        have kr : (r : Int) ≤ 256 := by omega
        clear hW hq hr hci hrs
        go_wp2_with fail
        refine (HCI.out _).mono ?_
        rintro e w2 ⟨rfl, hb2⟩
        have HB2 := Lib.hid (HBe.out.trans (hb2.mono hs))
        clear hb2
        go_wp2
        go_roundw
        case rel => exact ⟨i + 1, by omega, by go_num, by rw [HRS.out]; go_num, HB2.out⟩
        case measure => simp [intOf]; omega
      · obtain rfl : i = 16 := by omega
        obtain ⟨r, hr⟩ : ∃ r, rs g 16 = r := ⟨_, rfl⟩
        rw [hr] at e1 ⊢
        clear hr
        go_wp2
        go_ret2
        exact ⟨ret_ib e1.out.symm rfl, HB.out.trans (HBe.out.mono hs1)⟩
end Go.Proofs.YtabkkpifkkgpeaaDoor
