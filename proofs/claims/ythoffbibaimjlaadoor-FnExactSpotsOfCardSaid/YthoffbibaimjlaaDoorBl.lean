/- Contracts of single functions, and plain lemmas, on which the exact laws of this seat rest; each holds under the conditions that it states. -/
import Derived.Test.YthoffbibaimjlaaDoorWd
import Derived.RegionTactic
import Derived.Deep.WholeRow
namespace Go.Proofs.YthoffbibaimjlaaDoor
set_option linter.unusedVariables false
open Go.RowKit


section
variable {P : Program} {ops : Array Oper} {rest : List Oper} {o : Oper} {a : Act} {Q : Exit → Act → World → Prop}
/-- a whole row is loaded under a guard that says yes -/
theorem wpList_load_row_g {w : World} (hw : Region.wanted o (yielded ops a.tmps) = true) (ty : TypeId) (x : Operand) (ho : o.op = .load ty x)
    (g : Nat) (hx : a.eval x = .pointer (some ⟨g, 0, none⟩)) (t : TypeId) (cs : Array Value) (fr : Nat × Nat) (d : TypeDesc) (hg : w.heap[g]? = some (.cells cs t fr))
    (hu : P.underlying ty = some d) (hd : (match d with | .struct _ | .array _ _ => true | _ => false) = true) (hi : (P.info? ty).map (·.size) = some cs.size)
    (h : wpList P ops Q rest (a.put o.dst (.agg cs)) w) : wpList P ops Q (o :: rest) a w :=
  wpList_step fun K hK => by
    rw [if_pos hw]
    exact wp_load_row ty x ho g hx t cs fr d hg hu hd hi (hK _ _ h)
/-- a whole row is stored into the block that was made last -/
theorem wpList_store_new (w1 : World) (hgd : o.guard = none) (ty : TypeId) (x y : Operand) (ho : o.op = .store ty x y)
    (cells : Array Value) (hx : a.eval x = .pointer (some ⟨w1.heap.size, 0, none⟩)) (hy : a.eval y = .agg cells)
    (t : TypeId) (old : Array Value) (hi : (P.info? ty).map (·.size) = some cells.size)
    (hold : old.size = cells.size) (h1 : cells.all (·.oneCell') = true)
    (h : wpList P ops Q rest (a.put o.dst undef) (w1.alloc (.cells cells t))) : wpList P ops Q (o :: rest) a (w1.alloc (.cells old t)) :=
  wpList_store_row hgd ty x y ho w1.heap.size cells hx hy t old (heap_alloc_last w1 _) hi hold h1 (by rw [World.setRow_alloc_new]; exact h)
end

/-! ### matrices: eighteen cells: the width, the height, sixteen words -/
def mcells (a b : Int) (f : Nat → Int) : Array Value :=
  #[.int .i64 a, .int .i64 b, .int .u32 (f 0), .int .u32 (f 1), .int .u32 (f 2), .int .u32 (f 3), .int .u32 (f 4), .int .u32 (f 5), .int .u32 (f 6), .int .u32 (f 7),
    .int .u32 (f 8), .int .u32 (f 9), .int .u32 (f 10), .int .u32 (f 11), .int .u32 (f 12), .int .u32 (f 13), .int .u32 (f 14), .int .u32 (f 15)]
theorem mcells_size (a b : Int) (f : Nat → Int) : (mcells a b f).size = 18 := rfl
theorem mcells_one (a b : Int) (f : Nat → Int) : (mcells a b f).all (·.oneCell') = true := by simp [mcells, Value.oneCell']
theorem mcells_word (a b : Int) (f : Nat → Int) (j : Nat) (h : j < 16) : (mcells a b f)[2 + j]? = some (.int .u32 (f j)) := by
  have : j = 0 ∨ j = 1 ∨ j = 2 ∨ j = 3 ∨ j = 4 ∨ j = 5 ∨ j = 6 ∨ j = 7 ∨ j = 8 ∨ j = 9 ∨ j = 10 ∨ j = 11 ∨ j = 12 ∨ j = 13 ∨ j = 14 ∨ j = 15 := by omega
  rcases this with rfl | rfl | rfl | rfl | rfl | rfl | rfl | rfl | rfl | rfl | rfl | rfl | rfl | rfl | rfl | rfl <;> rfl
theorem mcells_set (a b : Int) (f : Nat → Int) (j : Nat) (h : j < 16) (x : Int) : (mcells a b f).setIfInBounds (2 + j) (.int .u32 x) = mcells a b (fun i => if i = j then x else f i) := by
  have : j = 0 ∨ j = 1 ∨ j = 2 ∨ j = 3 ∨ j = 4 ∨ j = 5 ∨ j = 6 ∨ j = 7 ∨ j = 8 ∨ j = 9 ∨ j = 10 ∨ j = 11 ∨ j = 12 ∨ j = 13 ∨ j = 14 ∨ j = 15 := by omega
  rcases this with rfl | rfl | rfl | rfl | rfl | rfl | rfl | rfl | rfl | rfl | rfl | rfl | rfl | rfl | rfl | rfl <;> rfl
theorem mcells_congr (a b : Int) {f g : Nat → Int} (h : ∀ j, j < 16 → f j = g j) : mcells a b f = mcells a b g := by
  unfold mcells
  rw [h 0 (by omega), h 1 (by omega), h 2 (by omega), h 3 (by omega), h 4 (by omega), h 5 (by omega), h 6 (by omega), h 7 (by omega), h 8 (by omega), h 9 (by omega), h 10 (by omega), h 11 (by omega), h 12 (by omega), h 13 (by omega), h 14 (by omega), h 15 (by omega)]
theorem infoM : (Tryd.prog.info? 44).map (·.size) = some 18 := by kernel_rfl

/-- a struct in a variable, and one thing more, handed back -/
theorem results_cell_tmp {P : Program} {fn : Func} {p q : Tmp} {ty : TypeId} (h : fn.results = #[.cell p ty, .tmp q]) (tmps : Array Value) (w : World) (g : Nat) (t : TypeId) (cs : Array Value) (fr : Nat × Nat) (d : TypeDesc)
    (hp : tmps.getD p undef = .pointer (some ⟨g, 0, none⟩)) (hg : w.heap[g]? = some (.cells cs t fr))
    (hu : P.underlying ty = some d) (hd : (match d with | .struct _ | .array _ _ => true | _ => false) = true) (hi : (P.info? ty).map (·.size) = some cs.size) :
    (results fn tmps).run P w = .ok (.tuple #[.agg cs, tmps.getD q undef]) w := by
  have hp' : tmps[p]?.getD undef = .pointer (some ⟨g, 0, none⟩) := by simpa using hp
  simp [results, h, hp', asAddr, run_loadVar_row w g t ty cs fr d hg hu hd hi]

def RetMat (a b : Int) (f : Nat → Int) (ok : Bool) (w : World) (e : Ending) (w' : World) : Prop := e = .returned (.tuple #[.agg (mcells a b f), .bool ok]) ∧ Below w.heap.size w w'

/-- what is known of the eighteen cells -/
structure Mat (C : Array Value) (a b : Int) (f : Nat → Int) : Prop where
  eq : C = mcells a b f
theorem Mat.size {C : Array Value} {a b : Int} {f : Nat → Int} (h : Mat C a b f) : C.size = 18 := by rw [h.eq]; rfl

def hasB (a b x y : Int) : Bool := decide (0 ≤ x) && decide (x < a) && decide (0 ≤ y) && decide (y < b)

set_option maxHeartbeats 400000 in
set_option maxRecDepth 100000 in
theorem has_any (C : Array Value) (a b : Int) (f : Nat → Int) (x y : Int) (w : World) (hC : Mat C a b f) :
    Calls Tryd.prog 39 #[.agg C, .int .i64 x, .int .i64 y] w (SaysB (hasB a b x y) w) := by
  have c0 : (w.alloc (.cells C 44)).cell? ⟨w.heap.size, 0, none⟩ = some (.int .i64 a) := by
    rw [World.cell?_alloc_mark]; rw [hC.eq]; rfl
  have c1 : (w.alloc (.cells C 44)).cell? ⟨w.heap.size, 1, none⟩ = some (.int .i64 b) := by
    rw [World.cell?_alloc_mark]; rw [hC.eq]; rfl
  clear hC
  by_cases h1 : 0 ≤ x
  · by_cases h2 : x < a
    · by_cases h3 : 0 ≤ y
      · have e : Hid (hasB a b x y = decide (y < b)) := by show hasB a b x y = _; simp [hasB, h1, h2, h3]
        go_enter Tryd.func39, Tryd.ntmps39
        go_wp2
        go_ret
        exact ⟨ret_bool e.out.symm, Joins.below_alloc1 _ _⟩
      · have e : Hid (hasB a b x y = false) := by show hasB a b x y = _; simp [hasB, h3]
        go_enter Tryd.func39, Tryd.ntmps39
        go_wp2
        go_ret
        exact ⟨ret_bool (a := false) e.out.symm, Joins.below_alloc1 _ _⟩
    · have e : Hid (hasB a b x y = false) := by show hasB a b x y = _; simp [hasB, h2]
      go_enter Tryd.func39, Tryd.ntmps39
      go_wp2
      go_ret
      exact ⟨ret_bool (a := false) e.out.symm, Joins.below_alloc1 _ _⟩
  · have e : Hid (hasB a b x y = false) := by show hasB a b x y = _; simp [hasB, h1]
    go_enter Tryd.func39, Tryd.ntmps39
    go_wp2
    go_ret
    exact ⟨ret_bool (a := false) e.out.symm, Joins.below_alloc1 _ _⟩
end Go.Proofs.YthoffbibaimjlaaDoor

/- Contracts of single functions, and plain lemmas, on which the exact laws of this seat rest; each holds under the conditions that it states. -/
namespace Go.Proofs.YthoffbibaimjlaaDoor
set_option linter.unusedVariables false
open Go.RowKit

/-- a matrix's cells: the words are natural numbers -/
def mat (a b : Nat) (g : Nat → Nat) : Array Value := mcells a b (fun j => (g j : Int))

def blackB (a b : Nat) (g : Nat → Nat) (x y : Int) : Bool := hasB a b x y && (g y.toNat).testBit x.toNat

theorem bit_shift (W x : Nat) (hW : W < 4294967296) : bits .and .u32 ((W : Int) / (2 : Int) ^ x) 1 = if W.testBit x then 1 else 0 := by
  have e : (W : Int) / (2 : Int) ^ x = ((W / 2 ^ x : Nat) : Int) := by simp
  have hlt : W / 2 ^ x < 4294967296 := Nat.lt_of_le_of_lt (Nat.div_le_self _ _) hW
  rw [e, show (1 : Int) = ((1 : Nat) : Int) from rfl, u32_and_nat _ 1 hlt (by omega), nat_mask1, Nat.testBit, Nat.shiftRight_eq_div_pow, ]
  have : 1 &&& W / 2 ^ x = (W / 2 ^ x) % 2 := nat_mask1' _
  rw [this]
  rcases Nat.mod_two_eq_zero_or_one (W / 2 ^ x) with h | h <;> simp [h]

set_option maxHeartbeats 400000 in
set_option maxRecDepth 100000 in
theorem black_any (C : Array Value) (a b : Nat) (g : Nat → Nat) (x y : Int) (w : World) (hC : C = mat a b g) (ha : a ≤ 16) (hb : b ≤ 16) (hg : ∀ j, g j < 4294967296) :
    Calls Tryd.prog 35 #[.agg C, .int .i64 x, .int .i64 y] w (SaysB (blackB a b g x y) w) := by
  have hh := fun W => has_any C a b (fun j => (g j : Int)) x y W ⟨hC⟩
  have HH := Lib.hid hh
  have hsz : C.size = 18 := by rw [hC]; rfl
  have HI : (Tryd.prog.info? 44).map (·.size) = some C.size := by rw [hsz]; exact infoM
  have HI' := Lib.hid HI
  clear hh HI
  by_cases hin : hasB a b x y = true
  · have hin2 := hin
    unfold hasB at hin2
    simp at hin2
    obtain ⟨⟨⟨hx0, hx1⟩, hy0⟩, hy1⟩ := hin2
    obtain ⟨p, rfl⟩ := Int.eq_ofNat_of_zero_le hx0
    obtain ⟨q, rfl⟩ := Int.eq_ofNat_of_zero_le hy0
    have hq : q < 16 := by omega
    have cq : (w.alloc (.cells C 44)).cell? ⟨w.heap.size, 2 + q, none⟩ = some (.int .u32 (g q)) := by
      rw [World.cell?_alloc_mark, hC]; exact mcells_word _ _ _ q hq
    have bs := bit_shift (g q) p (hg q)
    have hval : Hid (blackB a b g p q = (g q).testBit p) := by show blackB a b g p q = _; unfold blackB; rw [hin]; simp
    have HIN := Lib.hid hin
    obtain ⟨W, hW⟩ : ∃ W, g q = W := ⟨_, rfl⟩
    rw [hW] at cq bs hval
    clear hin hC hsz hg hW
    cases hbit : W.testBit p with
    | true =>
      rw [hbit] at bs hval
      have bs' : bits .and .u32 ((W : Int) / (2 : Int) ^ p) 1 = 1 := bs
      clear bs hbit
      go_enter Tryd.func35, Tryd.ntmps35
      go_wp2_with (refine wpList_load_row rfl 44 _ rfl w.heap.size rfl 44 C (0, 0) _ (heap_alloc_last w _) Tryd.underlying44 rfl HI'.out ?_)
      refine (HH.out _).mono ?_
      rintro e w1 ⟨rfl, hb1⟩
      rw [HIN.out]
      have cq1 := (hb1.cell (p := ⟨w.heap.size, 2 + q, none⟩) (by simp)).trans cq
      have HB := Lib.hid hb1
      clear hb1 cq
      go_wp2
      go_ret
      exact ⟨ret_bool (a := true) hval.out.symm, (Joins.below_alloc1 _ _).trans (HB.out.mono (by simp))⟩
    | false =>
      rw [hbit] at bs hval
      have bs' : bits .and .u32 ((W : Int) / (2 : Int) ^ p) 1 = 0 := bs
      clear bs hbit
      go_enter Tryd.func35, Tryd.ntmps35
      go_wp2_with (refine wpList_load_row rfl 44 _ rfl w.heap.size rfl 44 C (0, 0) _ (heap_alloc_last w _) Tryd.underlying44 rfl HI'.out ?_)
      refine (HH.out _).mono ?_
      rintro e w1 ⟨rfl, hb1⟩
      rw [HIN.out]
      have cq1 := (hb1.cell (p := ⟨w.heap.size, 2 + q, none⟩) (by simp)).trans cq
      have HB := Lib.hid hb1
      clear hb1 cq
      go_wp2
      go_ret
      exact ⟨ret_bool (a := false) hval.out.symm, (Joins.below_alloc1 _ _).trans (HB.out.mono (by simp))⟩
  · have hin' : hasB a b x y = false := by simpa using hin
    have hval : Hid (blackB a b g x y = false) := by show blackB a b g x y = _; unfold blackB; rw [hin']; simp
    have HIN := Lib.hid hin'
    clear hin hin' hC hsz
    go_enter Tryd.func35, Tryd.ntmps35
    go_wp2_with (refine wpList_load_row rfl 44 _ rfl w.heap.size rfl 44 C (0, 0) _ (heap_alloc_last w _) Tryd.underlying44 rfl HI'.out ?_)
    refine (HH.out _).mono ?_
    rintro e w1 ⟨rfl, hb1⟩
    rw [HIN.out]
    have HB := Lib.hid hb1
    clear hb1
    go_wp2
    go_ret
    exact ⟨ret_bool (a := false) hval.out.symm, (Joins.below_alloc1 _ _).trans (HB.out.mono (by simp))⟩
end Go.Proofs.YthoffbibaimjlaaDoor
