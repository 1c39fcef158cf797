/- Contracts of single functions, and plain lemmas, on which the exact laws of this seat rest; each holds under the conditions that it states. -/
import Derived.Test.YthoffbibaimjlaaDoorMa
namespace Go.Proofs.YthoffbibaimjlaaDoor
set_option linter.unusedVariables false
open Go.RowKit

/-- a matrix's cells: the words are natural numbers -/
def mat (a b : Nat) (g : Nat → Nat) : Array Value := mcells a b (fun j => (g j : Int))

def blackB (a b : Nat) (g : Nat → Nat) (x y : Int) : Bool := hasB a b x y && (g y.toNat).testBit x.toNat

theorem bit_shift (W x : Nat) (hW : W < 4294967296) : bits .and .u32 ((W : Int) / (2 : Int) ^ x) 1 = if W.testBit x then 1 else 0 := by
  have e : (W : Int) / (2 : Int) ^ x = ((W / 2 ^ x : Nat) : Int) := by simp
  have hlt : W / 2 ^ x < 4294967296 := Nat.lt_of_le_of_lt (Nat.div_le_self _ _) hW
  rw [e, show (1 : Int) = ((1 : Nat) : Int) from rfl, u32_and_nat _ 1 hlt (by omega), nat_mask1, Nat.testBit, Nat.shiftRight_eq_div_pow, ]
  have : 1 &&& W / 2 ^ x = (W / 2 ^ x) % 2 := nat_mask1' _
  rw [this]
  rcases Nat.mod_two_eq_zero_or_one (W / 2 ^ x) with h | h <;> simp [h]

set_option maxHeartbeats 400000 in
set_option maxRecDepth 100000 in
theorem black_any (C : Array Value) (a b : Nat) (g : Nat → Nat) (x y : Int) (w : World) (hC : C = mat a b g) (ha : a ≤ 16) (hb : b ≤ 16) (hg : ∀ j, g j < 4294967296) :
    Calls Tryd.prog 35 #[.agg C, .int .i64 x, .int .i64 y] w (SaysB (blackB a b g x y) w) := by
  have hh := fun W => has_any C a b (fun j => (g j : Int)) x y W ⟨hC⟩
  have HH := Lib.hid hh
  have hsz : C.size = 18 := by rw [hC]; rfl
  have HI : (Tryd.prog.info? 44).map (·.size) = some C.size := by rw [hsz]; exact infoM
  have HI' := Lib.hid HI
  clear hh HI
  by_cases hin : hasB a b x y = true
  · have hin2 := hin
    unfold hasB at hin2
    simp at hin2
    obtain ⟨⟨⟨hx0, hx1⟩, hy0⟩, hy1⟩ := hin2
    obtain ⟨p, rfl⟩ := Int.eq_ofNat_of_zero_le hx0
    obtain ⟨q, rfl⟩ := Int.eq_ofNat_of_zero_le hy0
    have hq : q < 16 := by omega
    have cq : (w.alloc (.cells C 44)).cell? ⟨w.heap.size, 2 + q, none⟩ = some (.int .u32 (g q)) := by
      rw [World.cell?_alloc_mark, hC]; exact mcells_word _ _ _ q hq
    have bs := bit_shift (g q) p (hg q)
    have hval : Hid (blackB a b g p q = (g q).testBit p) := by show blackB a b g p q = _; unfold blackB; rw [hin]; simp
    have HIN := Lib.hid hin
    obtain ⟨W, hW⟩ : ∃ W, g q = W := ⟨_, rfl⟩
    rw [hW] at cq bs hval
    clear hin hC hsz hg hW
    cases hbit : W.testBit p with
    | true =>
      rw [hbit] at bs hval
      have bs' : bits .and .u32 ((W : Int) / (2 : Int) ^ p) 1 = 1 := bs
      clear bs hbit
      go_enter Tryd.func35, Tryd.ntmps35
      go_wp2_with (refine wpList_load_row rfl 44 _ rfl w.heap.size rfl 44 C (0, 0) _ (heap_alloc_last w _) Tryd.underlying44 rfl HI'.out ?_)
      refine (HH.out _).mono ?_
      rintro e w1 ⟨rfl, hb1⟩
      rw [HIN.out]
      have cq1 := (hb1.cell (p := ⟨w.heap.size, 2 + q, none⟩) (by simp)).trans cq
      have HB := Lib.hid hb1
      clear hb1 cq
      go_wp2
      go_ret
      exact ⟨ret_bool (a := true) hval.out.symm, (Joins.below_alloc1 _ _).trans (HB.out.mono (by simp))⟩
    | false =>
      rw [hbit] at bs hval
      have bs' : bits .and .u32 ((W : Int) / (2 : Int) ^ p) 1 = 0 := bs
      clear bs hbit
      go_enter Tryd.func35, Tryd.ntmps35
      go_wp2_with (refine wpList_load_row rfl 44 _ rfl w.heap.size rfl 44 C (0, 0) _ (heap_alloc_last w _) Tryd.underlying44 rfl HI'.out ?_)
      refine (HH.out _).mono ?_
      rintro e w1 ⟨rfl, hb1⟩
      rw [HIN.out]
      have cq1 := (hb1.cell (p := ⟨w.heap.size, 2 + q, none⟩) (by simp)).trans cq
      have HB := Lib.hid hb1
      clear hb1 cq
      go_wp2
      go_ret
      exact ⟨ret_bool (a := false) hval.out.symm, (Joins.below_alloc1 _ _).trans (HB.out.mono (by simp))⟩
  · have hin' : hasB a b x y = false := by simpa using hin
    have hval : Hid (blackB a b g x y = false) := by show blackB a b g x y = _; unfold blackB; rw [hin']; simp
    have HIN := Lib.hid hin'
    clear hin hin' hC hsz
    go_enter Tryd.func35, Tryd.ntmps35
    go_wp2_with (refine wpList_load_row rfl 44 _ rfl w.heap.size rfl 44 C (0, 0) _ (heap_alloc_last w _) Tryd.underlying44 rfl HI'.out ?_)
    refine (HH.out _).mono ?_
    rintro e w1 ⟨rfl, hb1⟩
    rw [HIN.out]
    have HB := Lib.hid hb1
    clear hb1
    go_wp2
    go_ret
    exact ⟨ret_bool (a := false) hval.out.symm, (Joins.below_alloc1 _ _).trans (HB.out.mono (by simp))⟩
end Go.Proofs.YthoffbibaimjlaaDoor
