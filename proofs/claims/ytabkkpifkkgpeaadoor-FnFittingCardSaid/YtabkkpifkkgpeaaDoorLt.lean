/- Contracts of single functions, and plain lemmas, on which the exact laws of this seat rest; each holds under the conditions that it states. -/
import Derived.Test.YtabkkpifkkgpeaaDoorWd
import Derived.RegionTactic
import Derived.Deep.WholeRow
import Derived.Test.YtabkkpifkkgpeaaDoorMw
import Derived.Test.YtabkkpifkkgpeaaDoorShelf
import Derived.Lib.BufferKept
import Derived.Lib.BufferOld
import Derived.Test.YtabkkpifkkgpeaaDoorSp
namespace Go.Proofs.YtabkkpifkkgpeaaDoor
set_option linter.unusedVariables false
open Go.RowKit


section
variable {P : Program} {ops : Array Oper} {rest : List Oper} {o : Oper} {a : Act} {Q : Exit → Act → World → Prop}
/-- a whole row is loaded under a guard that says yes -/
theorem wpList_load_row_g {w : World} (hw : Region.wanted o (yielded ops a.tmps) = true) (ty : TypeId) (x : Operand) (ho : o.op = .load ty x)
    (g : Nat) (hx : a.eval x = .pointer (some ⟨g, 0, none⟩)) (t : TypeId) (cs : Array Value) (fr : Nat × Nat) (d : TypeDesc) (hg : w.heap[g]? = some (.cells cs t fr))
    (hu : P.underlying ty = some d) (hd : (match d with | .struct _ | .array _ _ => true | _ => false) = true) (hi : (P.info? ty).map (·.size) = some cs.size)
    (h : wpList P ops Q rest (a.put o.dst (.agg cs)) w) : wpList P ops Q (o :: rest) a w :=
  wpList_step fun K hK => by
    rw [if_pos hw]
    exact wp_load_row ty x ho g hx t cs fr d hg hu hd hi (hK _ _ h)
/-- a whole row is stored into the block that was made last -/
theorem wpList_store_new (w1 : World) (hgd : o.guard = none) (ty : TypeId) (x y : Operand) (ho : o.op = .store ty x y)
    (cells : Array Value) (hx : a.eval x = .pointer (some ⟨w1.heap.size, 0, none⟩)) (hy : a.eval y = .agg cells)
    (t : TypeId) (old : Array Value) (hi : (P.info? ty).map (·.size) = some cells.size)
    (hold : old.size = cells.size) (h1 : cells.all (·.oneCell') = true)
    (h : wpList P ops Q rest (a.put o.dst undef) (w1.alloc (.cells cells t))) : wpList P ops Q (o :: rest) a (w1.alloc (.cells old t)) :=
  wpList_store_row hgd ty x y ho w1.heap.size cells hx hy t old (heap_alloc_last w1 _) hi hold h1 (by rw [World.setRow_alloc_new]; exact h)
end

/-! ### matrices: eighteen cells: the width, the height, sixteen words -/
def mcells (a b : Int) (f : Nat → Int) : Array Value :=
  #[.int .i64 a, .int .i64 b, .int .u32 (f 0), .int .u32 (f 1), .int .u32 (f 2), .int .u32 (f 3), .int .u32 (f 4), .int .u32 (f 5), .int .u32 (f 6), .int .u32 (f 7),
    .int .u32 (f 8), .int .u32 (f 9), .int .u32 (f 10), .int .u32 (f 11), .int .u32 (f 12), .int .u32 (f 13), .int .u32 (f 14), .int .u32 (f 15)]
theorem mcells_size (a b : Int) (f : Nat → Int) : (mcells a b f).size = 18 := rfl
theorem mcells_one (a b : Int) (f : Nat → Int) : (mcells a b f).all (·.oneCell') = true := by simp [mcells, Value.oneCell']
theorem mcells_word (a b : Int) (f : Nat → Int) (j : Nat) (h : j < 16) : (mcells a b f)[2 + j]? = some (.int .u32 (f j)) := by
  have : j = 0 ∨ j = 1 ∨ j = 2 ∨ j = 3 ∨ j = 4 ∨ j = 5 ∨ j = 6 ∨ j = 7 ∨ j = 8 ∨ j = 9 ∨ j = 10 ∨ j = 11 ∨ j = 12 ∨ j = 13 ∨ j = 14 ∨ j = 15 := by omega
  rcases this with rfl | rfl | rfl | rfl | rfl | rfl | rfl | rfl | rfl | rfl | rfl | rfl | rfl | rfl | rfl | rfl <;> rfl
theorem mcells_set (a b : Int) (f : Nat → Int) (j : Nat) (h : j < 16) (x : Int) : (mcells a b f).setIfInBounds (2 + j) (.int .u32 x) = mcells a b (fun i => if i = j then x else f i) := by
  have : j = 0 ∨ j = 1 ∨ j = 2 ∨ j = 3 ∨ j = 4 ∨ j = 5 ∨ j = 6 ∨ j = 7 ∨ j = 8 ∨ j = 9 ∨ j = 10 ∨ j = 11 ∨ j = 12 ∨ j = 13 ∨ j = 14 ∨ j = 15 := by omega
  rcases this with rfl | rfl | rfl | rfl | rfl | rfl | rfl | rfl | rfl | rfl | rfl | rfl | rfl | rfl | rfl | rfl <;> rfl
theorem mcells_congr (a b : Int) {f g : Nat → Int} (h : ∀ j, j < 16 → f j = g j) : mcells a b f = mcells a b g := by
  unfold mcells
  rw [h 0 (by omega), h 1 (by omega), h 2 (by omega), h 3 (by omega), h 4 (by omega), h 5 (by omega), h 6 (by omega), h 7 (by omega), h 8 (by omega), h 9 (by omega), h 10 (by omega), h 11 (by omega), h 12 (by omega), h 13 (by omega), h 14 (by omega), h 15 (by omega)]
theorem infoM : (Tryd.prog.info? 96).map (·.size) = some 18 := by kernel_rfl

/-- a struct in a variable, and one thing more, handed back -/
theorem results_cell_tmp {P : Program} {fn : Func} {p q : Tmp} {ty : TypeId} (h : fn.results = #[.cell p ty, .tmp q]) (tmps : Array Value) (w : World) (g : Nat) (t : TypeId) (cs : Array Value) (fr : Nat × Nat) (d : TypeDesc)
    (hp : tmps.getD p undef = .pointer (some ⟨g, 0, none⟩)) (hg : w.heap[g]? = some (.cells cs t fr))
    (hu : P.underlying ty = some d) (hd : (match d with | .struct _ | .array _ _ => true | _ => false) = true) (hi : (P.info? ty).map (·.size) = some cs.size) :
    (results fn tmps).run P w = .ok (.tuple #[.agg cs, tmps.getD q undef]) w := by
  have hp' : tmps[p]?.getD undef = .pointer (some ⟨g, 0, none⟩) := by simpa using hp
  simp [results, h, hp', asAddr, run_loadVar_row w g t ty cs fr d hg hu hd hi]

def RetMat (a b : Int) (f : Nat → Int) (ok : Bool) (w : World) (e : Ending) (w' : World) : Prop := e = .returned (.tuple #[.agg (mcells a b f), .bool ok]) ∧ Below w.heap.size w w'

/-- what is known of the eighteen cells -/
structure Mat (C : Array Value) (a b : Int) (f : Nat → Int) : Prop where
  eq : C = mcells a b f
theorem Mat.size {C : Array Value} {a b : Int} {f : Nat → Int} (h : Mat C a b f) : C.size = 18 := by rw [h.eq]; rfl

def hasB (a b x y : Int) : Bool := decide (0 ≤ x) && decide (x < a) && decide (0 ≤ y) && decide (y < b)

set_option maxHeartbeats 400000 in
set_option maxRecDepth 100000 in
theorem has_any (C : Array Value) (a b : Int) (f : Nat → Int) (x y : Int) (w : World) (hC : Mat C a b f) :
    Calls Tryd.prog 124 #[.agg C, .int .i64 x, .int .i64 y] w (SaysB (hasB a b x y) w) := by
  have c0 : (w.alloc (.cells C 96)).cell? ⟨w.heap.size, 0, none⟩ = some (.int .i64 a) := by
    rw [World.cell?_alloc_mark]; rw [hC.eq]; rfl
  have c1 : (w.alloc (.cells C 96)).cell? ⟨w.heap.size, 1, none⟩ = some (.int .i64 b) := by
    rw [World.cell?_alloc_mark]; rw [hC.eq]; rfl
  clear hC
  by_cases h1 : 0 ≤ x
  · by_cases h2 : x < a
    · by_cases h3 : 0 ≤ y
      · have e : Hid (hasB a b x y = decide (y < b)) := by show hasB a b x y = _; simp [hasB, h1, h2, h3]
        go_enter Tryd.func124, Tryd.ntmps124
        go_wp2
        go_ret
        exact ⟨ret_bool e.out.symm, Joins.below_alloc1 _ _⟩
      · have e : Hid (hasB a b x y = false) := by show hasB a b x y = _; simp [hasB, h3]
        go_enter Tryd.func124, Tryd.ntmps124
        go_wp2
        go_ret
        exact ⟨ret_bool (a := false) e.out.symm, Joins.below_alloc1 _ _⟩
    · have e : Hid (hasB a b x y = false) := by show hasB a b x y = _; simp [hasB, h2]
      go_enter Tryd.func124, Tryd.ntmps124
      go_wp2
      go_ret
      exact ⟨ret_bool (a := false) e.out.symm, Joins.below_alloc1 _ _⟩
  · have e : Hid (hasB a b x y = false) := by show hasB a b x y = _; simp [hasB, h1]
    go_enter Tryd.func124, Tryd.ntmps124
    go_wp2
    go_ret
    exact ⟨ret_bool (a := false) e.out.symm, Joins.below_alloc1 _ _⟩
end Go.Proofs.YtabkkpifkkgpeaaDoor

/- Contracts of single functions, and plain lemmas, on which the exact laws of this seat rest; each holds under the conditions that it states. -/
namespace Go.Proofs.YtabkkpifkkgpeaaDoor
set_option linter.unusedVariables false
open Go.RowKit

/-- a matrix's cells: the words are natural numbers -/
def mat (a b : Nat) (g : Nat → Nat) : Array Value := mcells a b (fun j => (g j : Int))

def blackB (a b : Nat) (g : Nat → Nat) (x y : Int) : Bool := hasB a b x y && (g y.toNat).testBit x.toNat

theorem bit_shift (W x : Nat) (hW : W < 4294967296) : bits .and .u32 ((W : Int) / (2 : Int) ^ x) 1 = if W.testBit x then 1 else 0 := by
  have e : (W : Int) / (2 : Int) ^ x = ((W / 2 ^ x : Nat) : Int) := by simp
  have hlt : W / 2 ^ x < 4294967296 := Nat.lt_of_le_of_lt (Nat.div_le_self _ _) hW
  rw [e, show (1 : Int) = ((1 : Nat) : Int) from rfl, u32_and_nat _ 1 hlt (by omega), nat_mask1, Nat.testBit, Nat.shiftRight_eq_div_pow, ]
  have : 1 &&& W / 2 ^ x = (W / 2 ^ x) % 2 := nat_mask1' _
  rw [this]
  rcases Nat.mod_two_eq_zero_or_one (W / 2 ^ x) with h | h <;> simp [h]

set_option maxHeartbeats 400000 in
set_option maxRecDepth 100000 in
theorem black_any (C : Array Value) (a b : Nat) (g : Nat → Nat) (x y : Int) (w : World) (hC : C = mat a b g) (ha : a ≤ 16) (hb : b ≤ 16) (hg : ∀ j, g j < 4294967296) :
    Calls Tryd.prog 94 #[.agg C, .int .i64 x, .int .i64 y] w (SaysB (blackB a b g x y) w) := by
  have hh := fun W => has_any C a b (fun j => (g j : Int)) x y W ⟨hC⟩
  have HH := Lib.hid hh
  have hsz : C.size = 18 := by rw [hC]; rfl
  have HI : (Tryd.prog.info? 96).map (·.size) = some C.size := by rw [hsz]; exact infoM
  have HI' := Lib.hid HI
  clear hh HI
  by_cases hin : hasB a b x y = true
  · have hin2 := hin
    unfold hasB at hin2
    simp at hin2
    obtain ⟨⟨⟨hx0, hx1⟩, hy0⟩, hy1⟩ := hin2
    obtain ⟨p, rfl⟩ := Int.eq_ofNat_of_zero_le hx0
    obtain ⟨q, rfl⟩ := Int.eq_ofNat_of_zero_le hy0
    have hq : q < 16 := by omega
    have cq : (w.alloc (.cells C 96)).cell? ⟨w.heap.size, 2 + q, none⟩ = some (.int .u32 (g q)) := by
      rw [World.cell?_alloc_mark, hC]; exact mcells_word _ _ _ q hq
    have bs := bit_shift (g q) p (hg q)
    have hval : Hid (blackB a b g p q = (g q).testBit p) := by show blackB a b g p q = _; unfold blackB; rw [hin]; simp
    have HIN := Lib.hid hin
    obtain ⟨W, hW⟩ : ∃ W, g q = W := ⟨_, rfl⟩
    rw [hW] at cq bs hval
    clear hin hC hsz hg hW
    cases hbit : W.testBit p with
    | true =>
      rw [hbit] at bs hval
      have bs' : bits .and .u32 ((W : Int) / (2 : Int) ^ p) 1 = 1 := bs
      clear bs hbit
      go_enter Tryd.func94, Tryd.ntmps94
      go_wp2_with (refine wpList_load_row rfl 96 _ rfl w.heap.size rfl 96 C (0, 0) _ (heap_alloc_last w _) Tryd.underlying96 rfl HI'.out ?_)
      refine (HH.out _).mono ?_
      rintro e w1 ⟨rfl, hb1⟩
      rw [HIN.out]
      have cq1 := (hb1.cell (p := ⟨w.heap.size, 2 + q, none⟩) (by simp)).trans cq
      have HB := Lib.hid hb1
      clear hb1 cq
      go_wp2
      go_ret
      exact ⟨ret_bool (a := true) hval.out.symm, (Joins.below_alloc1 _ _).trans (HB.out.mono (by simp))⟩
    | false =>
      rw [hbit] at bs hval
      have bs' : bits .and .u32 ((W : Int) / (2 : Int) ^ p) 1 = 0 := bs
      clear bs hbit
      go_enter Tryd.func94, Tryd.ntmps94
      go_wp2_with (refine wpList_load_row rfl 96 _ rfl w.heap.size rfl 96 C (0, 0) _ (heap_alloc_last w _) Tryd.underlying96 rfl HI'.out ?_)
      refine (HH.out _).mono ?_
      rintro e w1 ⟨rfl, hb1⟩
      rw [HIN.out]
      have cq1 := (hb1.cell (p := ⟨w.heap.size, 2 + q, none⟩) (by simp)).trans cq
      have HB := Lib.hid hb1
      clear hb1 cq
      go_wp2
      go_ret
      exact ⟨ret_bool (a := false) hval.out.symm, (Joins.below_alloc1 _ _).trans (HB.out.mono (by simp))⟩
  · have hin' : hasB a b x y = false := by simpa using hin
    have hval : Hid (blackB a b g x y = false) := by show blackB a b g x y = _; unfold blackB; rw [hin']; simp
    have HIN := Lib.hid hin'
    clear hin hin' hC hsz
    go_enter Tryd.func94, Tryd.ntmps94
    go_wp2_with (refine wpList_load_row rfl 96 _ rfl w.heap.size rfl 96 C (0, 0) _ (heap_alloc_last w _) Tryd.underlying96 rfl HI'.out ?_)
    refine (HH.out _).mono ?_
    rintro e w1 ⟨rfl, hb1⟩
    rw [HIN.out]
    have HB := Lib.hid hb1
    clear hb1
    go_wp2
    go_ret
    exact ⟨ret_bool (a := false) hval.out.symm, (Joins.below_alloc1 _ _).trans (HB.out.mono (by simp))⟩
end Go.Proofs.YtabkkpifkkgpeaaDoor

/- Contracts of single functions, and plain lemmas, on which the exact laws of this seat rest; each holds under the conditions that it states. -/
namespace Go.Proofs.YtabkkpifkkgpeaaDoor
set_option linter.unusedVariables false
open Go.RowKit

/-! ### a row of a matrix as text: the shelf's buffer -/
theorem byteCells_snoc (l : List UInt8) (c : UInt8) : Lib.byteCells (l ++ [c]) = Lib.byteCells l ++ [.int .u8 c.toNat] := by simp [Lib.byteCells]

theorem text_step {w wr w2 : World} {n k : Nat} {C : Array Value} {t : TypeId} (hC : wr.heap[n]? = some (.cells C t (0, 0))) (hn : n < k) (h : Below n w wr) (h2 : Below k wr w2) : w2.heap[n]? = some (.cells C t (0, 0)) ∧ Below n w w2 :=
  ⟨(h2.block n hn).trans hC, h.trans (h2.mono (by omega))⟩

set_option maxHeartbeats 4000000 in
set_option maxRecDepth 100000 in
theorem rowText_any (C : Array Value) (a b : Nat) (g : Nat → Nat) (y : Int) (w : World) (hC : C = mat a b g) (ha : a ≤ 16) (hb : b ≤ 16) (hg : ∀ j, g j < 4294967296) :
    Calls Tryd.prog 147 #[.agg C, .int .i64 y] w (fun e w' => e = .returned (.string (rowOf (fun x => blackB a b g x y) a)) ∧ Below w.heap.size w w') := by
  obtain ⟨f, hf⟩ : ∃ f : Nat → Bool, (fun x : Nat => blackB a b g (x : Int) y) = f := ⟨_, rfl⟩
  have HB := Lib.hid (fun (x : Nat) (W : World) => black_any C a b g x y W hC ha hb hg)
  have hf' : ∀ x : Nat, blackB a b g (x : Int) y = f x := fun x => by rw [← hf]
  have HF := Lib.hid hf'
  rw [hf]
  have hsz : C.size = 18 := by rw [hC]; rfl
  have HI : (Tryd.prog.info? 96).map (·.size) = some C.size := by rw [hsz]; exact infoM
  have HI' := Lib.hid HI
  have hl0 : (w.alloc (.cells C 96)).heap[w.heap.size]? = some (.cells C 96 (0, 0)) := heap_alloc_last w _
  have hl1 : ((w.alloc (.cells C 96)).alloc (.cells #[.slice none 0 0, .int .i64 0, .int .i8 0] 181)).heap[w.heap.size]? = some (.cells C 96 (0, 0)) := by
    rw [Below.heap_alloc _ _ _ (by simp)]; exact hl0
  have c0 : ((w.alloc (.cells C 96)).alloc (.cells #[.slice none 0 0, .int .i64 0, .int .i8 0] 181)).cell? ⟨w.heap.size, 0, none⟩ = some (.int .i64 a) := by
    rw [Joins.cell_of_block hl1 0, hC]; rfl
  have hI0 : Lib.IsBuffer 181 5 (w.heap.size + 1) (w.heap.size + 1) (Lib.byteCells (mkRow f 0)) ((w.alloc (.cells C 96)).alloc (.cells #[.slice none 0 0, .int .i64 0, .int .i8 0] 181)) := by
    have := Lib.fresh_isBuffer 181 5 (w.alloc (.cells C 96))
    simp only [World.size_alloc] at this
    exact this
  have L1 := Lib.hid hl1
  have I0 := Lib.hid hI0
  clear HI hsz hC hg hf hf' hl0 hl1 hI0
  go_enter Tryd.func147, Tryd.ntmps147
  go_wp2
  go_loopw [9] (fun xv wr => ∃ x : Nat, x ≤ a ∧ xv = .int .i64 x ∧ Lib.IsBuffer 181 5 (w.heap.size + 1) (w.heap.size + 1) (Lib.byteCells (mkRow f x)) wr ∧ wr.heap[w.heap.size]? = some (.cells C 96 (0, 0)) ∧ Below w.heap.size w wr) (fun xv _ => a - (intOf xv).toNat)
  case atStart => exact ⟨0, Nat.zero_le _, rfl, I0.out, L1.out, Joins.below_alloc2 _ _ _⟩
  case round =>
    obtain ⟨x, hx, rfl, hI, hl, hbel⟩ := hrel
    have hsz := hbel.size
    have hlt := hI.lt
    have hone : Hid (∀ v ∈ Lib.byteCells (mkRow f x), v.oneCell' = true) := Lib.byteCells_one _
    have hln : Hid ((Lib.byteCells (mkRow f x)).length = x) := by show _ = _; rw [Lib.byteCells_length, mkRow_len]
    have HI0 := Lib.hid hI
    have HL := Lib.hid hl
    have HBe := Lib.hid hbel
    clear hI hl hbel
    by_cases hlt2 : x < a
    · have kx0 : (x : Int) < (a : Int) := by omega
      go_wp2_with (first | (refine wpList_load_row rfl 96 _ rfl w.heap.size rfl 96 C (0, 0) _ HL.out Tryd.underlying96 rfl HI'.out ?_) | (refine (HB.out x _).mono ?_; rintro e w1 ⟨rfl, hb1⟩; rw [HF.out x]; refine Hid.out ?_))
      refine Lib.hid ?_
      have I1 := Lib.hid (HI0.out.old hb1)
      have L2 := Lib.hid ((hb1.block w.heap.size (by omega)).trans HL.out)
      have B1 := Lib.hid (HBe.out.trans (hb1.mono hsz))
      have hsz1 := B1.out.size
      have hlt1 : w.heap.size + 1 < w1.heap.size := I1.out.lt
      have hsn := mkRow_snoc f x
      clear hb1
      cases hbit : f x with
      | true =>
        rw [hbit] at hsn
        have HSN : Hid (mkRow f (x + 1) = mkRow f x ++ [35]) := hsn
        clear hbit hsn
        go_wp2_with (refine (Tryd.Buffer_WriteByte_k _ _ _ _ w1 I1.out (by omega) hone.out (by rw [hln.out]; omega)).mono ?_; rintro e W2 ⟨rfl, hI2, hb2, hkept⟩; refine Hid.out ?_)
        refine Lib.hid ?_
        have S := Lib.hid (text_step L2.out (by omega) B1.out hb2)
        have I2 : Hid (Lib.IsBuffer 181 5 (w.heap.size + 1) (w.heap.size + 1) (Lib.byteCells (mkRow f (x + 1))) W2) := by
          show Lib.IsBuffer _ _ _ _ _ _
          rw [HSN.out, byteCells_snoc]; exact hI2
        clear hI2 hb2 hkept
        go_wp2
        go_roundw
        case rel => exact ⟨x + 1, by omega, by go_num, I2.out, S.out.1, S.out.2⟩
        case measure => simp [intOf]; omega
      | false =>
        rw [hbit] at hsn
        have HSN : Hid (mkRow f (x + 1) = mkRow f x ++ [46]) := hsn
        clear hbit hsn
        go_wp2_with (refine (Tryd.Buffer_WriteByte_k _ _ _ _ w1 I1.out (by omega) hone.out (by rw [hln.out]; omega)).mono ?_; rintro e W2 ⟨rfl, hI2, hb2, hkept⟩; refine Hid.out ?_)
        refine Lib.hid ?_
        have S := Lib.hid (text_step L2.out (by omega) B1.out hb2)
        have I2 : Hid (Lib.IsBuffer 181 5 (w.heap.size + 1) (w.heap.size + 1) (Lib.byteCells (mkRow f (x + 1))) W2) := by
          show Lib.IsBuffer _ _ _ _ _ _
          rw [HSN.out, byteCells_snoc]; exact hI2
        clear hI2 hb2 hkept
        go_wp2
        go_roundw
        case rel => exact ⟨x + 1, by omega, by go_num, I2.out, S.out.1, S.out.2⟩
        case measure => simp [intOf]; omega
    · obtain rfl : x = a := by omega
      go_wp2_with (refine (Tryd.Buffer_String _ _ (mkRow f x) wr HI0.out).mono ?_; rintro e W2 ⟨rfl, n, rfl⟩)
      go_wp2
      go_ret
      exact ⟨rfl, HBe.out.trans ⟨rfl, rfl, rfl, Nat.le_refl _, fun _ _ => rfl⟩⟩
end Go.Proofs.YtabkkpifkkgpeaaDoor

/- Contracts of single functions, and plain lemmas, on which the exact laws of this seat rest; each holds under the conditions that it states. -/
namespace Go.Proofs.YtabkkpifkkgpeaaDoor
set_option linter.unusedVariables false
open Go.RowKit

set_option maxHeartbeats 4000000 in
set_option maxRecDepth 100000 in
theorem picture_any (C : Array Value) (a b : Nat) (g : Nat → Nat) (w : World) (hC : C = mat a b g) (ha : a ≤ 16) (hb : b ≤ 16) (hg : ∀ j, g j < 4294967296) :
    Calls Tryd.prog 99 #[.agg C] w (TookPic w (mkPic a b (fun y x => blackB a b g x y))) := by
  obtain ⟨i0, hi, hz0, hz1, hz2⟩ := info_parts Tryd.info9
  obtain ⟨R, hR⟩ : ∃ R : Nat → ByteArray, (fun y : Nat => rowOf (fun x => blackB a b g x (y : Int)) a) = R := ⟨_, rfl⟩
  have ht : ∀ (y : Nat) (W : World), Calls Tryd.prog 147 #[.agg C, .int .i64 y] W (fun e w' => e = .returned (.string (R y)) ∧ Below W.heap.size W w') := fun y W => by
    have := rowText_any C a b g (y : Int) W hC ha hb hg
    rw [← hR]; exact this
  have HT := Lib.hid ht
  have hfin : mkPic a b (fun y x => blackB a b g x y) = (List.range b).map R := by rw [← hR]; rfl
  rw [hfin]
  have hsz : C.size = 18 := by rw [hC]; rfl
  have HI : (Tryd.prog.info? 96).map (·.size) = some C.size := by rw [hsz]; exact infoM
  have HI' := Lib.hid HI
  have hl1 : ((w.alloc (.cells C 96)).alloc (.cells #[.slice none 0 0] 42)).heap[w.heap.size]? = some (.cells C 96 (0, 0)) := by
    rw [Below.heap_alloc _ _ _ (by simp)]; exact heap_alloc_last w _
  have hp1 : ((w.alloc (.cells C 96)).alloc (.cells #[.slice none 0 0] 42)).heap[w.heap.size + 1]? = some (.cells #[.slice none 0 0] 42 (0, 0)) := by
    have := heap_alloc_last (w.alloc (.cells C 96)) (.cells #[.slice none 0 0] 42)
    simp only [World.size_alloc] at this
    exact this
  have c0 : ((w.alloc (.cells C 96)).alloc (.cells #[.slice none 0 0] 42)).cell? ⟨w.heap.size, 1, none⟩ = some (.int .i64 b) := by
    rw [Joins.cell_of_block hl1 1, hC]; rfl
  have L1 := Lib.hid hl1
  have P1 := Lib.hid hp1
  clear HI hsz hC hg hR ht hfin hl1 hp1
  go_enter Tryd.func99, Tryd.ntmps99
  go_wp2_with (at_make; refine wpList_make_full _ rfl _ _ 40 rfl w.heap.size 9 i0 (.string ⟨#[]⟩) 1 Tryd.underlying40 hi hz0 hz1 _ _ _ _ b rfl rfl rfl rfl ?c1 ?c2 (by simp; omega) ?_)
  case c1 => rw [hz2]; omega
  case c2 => unfold maxLen; omega
  intro w1 hown hgr
  rw [toList_madeCells_one] at hown
  have hbel : Below w.heap.size w w1 := (Joins.below_alloc2 w _ _).grown hgr (by simp <;> omega) (fun k h => by cases h)
  have hl2 : w1.heap[w.heap.size]? = some (.cells C 96 (0, 0)) := (hgr.block _ (by simp <;> omega) (by simp)).trans L1.out
  have hp2 : w1.heap[w.heap.size + 1]? = some (.cells #[.slice none 0 0] 42 (0, 0)) := (hgr.block _ (by simp <;> omega) (by simp)).trans P1.out
  have c1 : w1.cell? ⟨w.heap.size, 1, none⟩ = some (.int .i64 b) := (World.cell?_of_block (hl2.trans L1.out.symm)).trans c0
  have HO := Lib.hid hown
  have HL2 := Lib.hid hl2
  have HP2 := Lib.hid hp2
  have HBe := Lib.hid hbel
  clear hgr hown hbel hl2 hp2 c0
  go_wp2
  go_loopw [10] (fun yv wr => ∃ y : Nat, y ≤ b ∧ yv = .int .i64 y ∧ wr.ownsRow w.heap.size 9 1 (.slice (some ⟨w.heap.size + 1 + 1, 0, none⟩) b b) b ((List.range y).map (fun i => Value.string (R i)) ++ List.replicate (b - y) (.string ⟨#[]⟩)) ∧ wr.heap[w.heap.size]? = some (.cells C 96 (0, 0)) ∧ wr.heap[w.heap.size + 1]? = some (.cells #[.slice none 0 0] 42 (0, 0)) ∧ Below w.heap.size w wr) (fun yv _ => b - (intOf yv).toNat)
  case atStart => exact ⟨0, Nat.zero_le _, rfl, by simpa using HO.out, HL2.out, HP2.out, HBe.out⟩
  case round =>
    clear HO HL2 HP2 HBe
    obtain ⟨y, hy, rfl, hown, hl, hp, hbel⟩ := hrel
    by_cases hlt : y < b
    · have kyb : (y : Int) < (b : Int) := by omega
      have hs0 := hbel.size
      have HO := Lib.hid hown
      have HL := Lib.hid hl
      have HP := Lib.hid hp
      have HBe := Lib.hid hbel
      clear hown hl hp hbel
      go_wp2_with (first | (refine wpList_load_row rfl 96 _ rfl w.heap.size rfl 96 C (0, 0) _ HL.out Tryd.underlying96 rfl HI'.out ?_) | (refine (HT.out y _).mono ?_; rintro e w2 ⟨rfl, hb2⟩; refine Hid.out ?_))
      refine Lib.hid ?_
      have hown := own_below HO.out hb2
      have hl := (hb2.block _ (Array.getElem?_eq_some_iff.1 HL.out).1).trans HL.out
      have hp := (hb2.block _ (Array.getElem?_eq_some_iff.1 HP.out).1).trans HP.out
      have hbel := HBe.out.trans (hb2.mono hs0)
      have hfz := hown.frozenAt y
      have hold := hown.cellAt y (by omega)
      rw [List.getElem?_append_right (by simp)] at hold
      simp only [List.length_map, List.length_range, Nat.sub_self] at hold
      rw [show b - y = (b - (y + 1)) + 1 from by omega, List.replicate_succ] at hold
      simp only [List.getElem?_cons_zero] at hold
      have hst := hown.stored y (.string (R y))
      rw [set_prefix (fun i => Value.string (R i)) _ b y hlt] at hst
      have HS := Lib.hid hst
      have HL3 := Lib.hid hl
      have HP3 := Lib.hid hp
      have HB3 := Lib.hid hbel
      obtain ⟨s, hs⟩ : ∃ s, R y = s := ⟨_, rfl⟩
      rw [hs] at HS ⊢
      clear hst hown hbel hs hl hp hb2
      go_wp2
      go_roundw
      case rel => exact ⟨y + 1, by omega, by go_num, HS.out.1, (Below.heap_setCell _ _ _ _ (by simp; omega)).trans HL3.out, (Below.heap_setCell _ _ _ _ (by simp)).trans HP3.out, HB3.out.setCell (by simp; omega) _⟩
      case measure => simp [intOf]; omega
    · obtain rfl : y = b := by omega
      have hfr : wr.frozen? ⟨w.heap.size + 1, 0, none⟩ = false := free_of_one hp
      have hc : wr.cell? ⟨w.heap.size + 1, 0, none⟩ = some (.slice none 0 0) := cell_of_one hp
      have hlen : ((List.range y).map R).length = y := by simp
      have hO : OwnP wr w.heap.size (.slice (some ⟨w.heap.size + 1 + 1, 0, none⟩) y y) ((List.range y).map R) := by
        unfold OwnP
        rw [hlen, List.map_map]
        simp only [Nat.sub_self, List.replicate_zero, List.append_nil] at hown
        exact hown
      have HO := Lib.hid hO
      have HL := Lib.hid hl
      have HP := Lib.hid hp
      have HBe := Lib.hid hbel
      clear hown hl hp hbel hO
      go_wp2
      refine bodyPost_ret (v := .agg #[.slice (some ⟨w.heap.size + 1 + 1, 0, none⟩) y y]) (by simp [results, Tryd.results99, go_sem, cell_of_one (one_setCell HP.out)]) rfl ⟨w.heap.size + 1 + 1, y, by rw [hlen], ?_, HBe.out.setCell (by simp) _⟩
      rw [hlen]
      exact Joins.ownsRow_le (ownsRow_setCell_other HO.out (a := ⟨w.heap.size + 1, 0, none⟩) (own_ne HO.out HP.out (by decide)) _) (by omega)
end Go.Proofs.YtabkkpifkkgpeaaDoor

/- Contracts of single functions, and plain lemmas, on which the exact laws of this seat rest; each holds under the conditions that it states. -/
namespace Go.Proofs.YtabkkpifkkgpeaaDoor
set_option linter.unusedVariables false
open Go.RowKit

theorem setCells_block (g : Nat) (t : TypeId) : ∀ (cs : List Value) (o : Nat) (c : Array Value) (w : World), w.heap[g]? = some (.cells c t (0, 0)) → o + cs.length = c.size →
    (w.setCells g o cs).heap[g]? = some (.cells (c.toList.take o ++ cs).toArray t (0, 0))
  | [], o, c, w, h, hl => by
    unfold World.setCells
    rw [h, List.append_nil, List.take_of_length_le (by simp at hl; simp; omega)]
  | v :: r, o, c, w, h, hl => by
    have hl' : o + (r.length + 1) = c.size := hl
    unfold World.setCells
    rw [setCells_block g t r (o + 1) (c.setIfInBounds o v) _ (Joins.block_setCell h v) (by simp; omega)]
    have e : (c.setIfInBounds o v).toList.take (o + 1) ++ r = c.toList.take o ++ v :: r := by
      rw [Array.toList_setIfInBounds, List.take_add_one, List.take_set_of_le (by omega), List.getElem?_set_self (by simp; omega)]
      simp
    rw [e]
theorem setCells_far (g k : Nat) (hk : k ≠ g) : ∀ (cs : List Value) (o : Nat) (w : World), (w.setCells g o cs).heap[k]? = w.heap[k]?
  | [], _, _ => rfl
  | v :: r, o, w => by
    unfold World.setCells
    rw [setCells_far g k hk r (o + 1) _, Below.heap_setCell _ _ _ _ hk]
theorem setCells_rest (g : Nat) : ∀ (cs : List Value) (o : Nat) (w : World), (w.setCells g o cs).os = w.os ∧ (w.setCells g o cs).tape = w.tape ∧ (w.setCells g o cs).output = w.output ∧ (w.setCells g o cs).heap.size = w.heap.size
  | [], _, _ => ⟨rfl, rfl, rfl, rfl⟩
  | v :: r, o, w => by
    unfold World.setCells
    obtain ⟨a, b, c, d⟩ := setCells_rest g r (o + 1) (w.setCell ⟨g, o, none⟩ v)
    exact ⟨a, b, c, by rw [d]; simp [World.setCell]⟩

/-- three new blocks, the last one stored whole -/
theorem three_new (w : World) (A B C : Obj) (c : Array Value) (t : TypeId) (hC : C = .cells c t (0, 0)) (cs : List Value) (hl : cs.length = c.size) (W : World) (hW : W = (((w.alloc A).alloc B).alloc C).drew.setCells (w.heap.size + 1 + 1) 0 cs) :
    W.heap[w.heap.size]? = some A ∧ W.heap[w.heap.size + 1]? = some B ∧ W.heap[w.heap.size + 1 + 1]? = some (.cells cs.toArray t (0, 0)) ∧ Below w.heap.size w W ∧ W.heap.size = w.heap.size + 3 := by
  subst hC hW
  have h0 : ((((w.alloc A).alloc B).alloc (.cells c t (0, 0))).drew).heap[w.heap.size + 1 + 1]? = some (.cells c t (0, 0)) := by
    show (((w.alloc A).alloc B).alloc (.cells c t (0, 0))).heap[w.heap.size + 1 + 1]? = _
    have := heap_alloc_last ((w.alloc A).alloc B) (.cells c t (0, 0))
    simpa using this
  have h1 := setCells_block (w.heap.size + 1 + 1) t cs 0 c _ h0 (by omega)
  have hf : ∀ k, k < w.heap.size + 1 + 1 → ((((w.alloc A).alloc B).alloc (.cells c t (0, 0))).drew.setCells (w.heap.size + 1 + 1) 0 cs).heap[k]? = ((w.alloc A).alloc B).heap[k]? := fun k hk => by
    rw [setCells_far _ _ (by omega)]
    exact Below.heap_alloc _ _ _ (by simpa using hk)
  obtain ⟨r1, r2, r3, r4⟩ := setCells_rest (w.heap.size + 1 + 1) cs 0 ((((w.alloc A).alloc B).alloc (.cells c t (0, 0))).drew)
  have hs : ((((w.alloc A).alloc B).alloc (.cells c t (0, 0))).drew).heap.size = w.heap.size + 3 := by show (((w.alloc A).alloc B).alloc (.cells c t (0, 0))).heap.size = _; simp
  refine ⟨?_, ?_, ?_, ⟨r1, r2, r3, by rw [r4, hs]; omega, fun k hk => ?_⟩, by rw [r4, hs]⟩
  · rw [hf _ (by omega), heap_alloc2_old]
  · rw [hf _ (by omega), heap_alloc2_new]
  · rw [h1]; simp
  · rw [hf _ (by omega), Below.heap_alloc _ _ _ (by simp; omega), Below.heap_alloc _ _ _ hk]

theorem three_cell (w : World) (A B C : Obj) (b o : Nat) (hb : b < w.heap.size) : (((w.alloc A).alloc B).alloc C).drew.cell? ⟨b, o, none⟩ = w.cell? ⟨b, o, none⟩ :=
  World.cell?_of_block (w := w) (by show (((w.alloc A).alloc B).alloc C).heap[b]? = _; rw [Below.heap_alloc _ _ _ (by simp; omega), Below.heap_alloc _ _ _ (by simp; omega), Below.heap_alloc _ _ _ hb])
theorem three_cell' (w : World) (A B C : Obj) (cs : List Value) (b o : Nat) (hb : b < w.heap.size) : ((((w.alloc A).alloc B).alloc C).drew.setCells (w.heap.size + 1 + 1) 0 cs).cell? ⟨b, o, none⟩ = w.cell? ⟨b, o, none⟩ :=
  (World.cell?_of_block (w := (((w.alloc A).alloc B).alloc C).drew) (setCells_far _ _ (by show b ≠ _; omega) cs 0 _)).trans (three_cell w A B C b o hb)
theorem three_first (w : World) (v : Value) (t : TypeId) (B C : Obj) : (((w.alloc (.cells #[v] t)).alloc B).alloc C).drew.cell? ⟨w.heap.size, 0, none⟩ = some v := by
  refine (World.cell?_of_block (w := w.alloc (.cells #[v] t)) ?_).trans (by rw [World.cell?_alloc_mark]; rfl)
  show (((w.alloc (.cells #[v] t)).alloc B).alloc C).heap[w.heap.size]? = _
  rw [Below.heap_alloc _ _ _ (by simp; omega), Below.heap_alloc _ _ _ (by simp)]
theorem three_first' (w : World) (v : Value) (t : TypeId) (B C : Obj) (cs : List Value) : ((((w.alloc (.cells #[v] t)).alloc B).alloc C).drew.setCells (w.heap.size + 1 + 1) 0 cs).cell? ⟨w.heap.size, 0, none⟩ = some v :=
  (World.cell?_of_block (w := (((w.alloc (.cells #[v] t)).alloc B).alloc C).drew) (setCells_far _ _ (by show w.heap.size ≠ w.heap.size + 1 + 1; omega) cs 0 _)).trans (three_first w v t B C)

theorem three_now (w : World) (A B C : Obj) (W : World) (hW : (((w.alloc A).alloc B).alloc C).drew = W) :
    W.heap[w.heap.size + 1]? = some B ∧ W.heap[w.heap.size + 1 + 1]? = some C ∧ Below w.heap.size w W ∧ W.heap.size = w.heap.size + 3 ∧ W.heap[w.heap.size]? = some A := by
  subst hW
  have hs : ((((w.alloc A).alloc B).alloc C).drew).heap.size = w.heap.size + 3 := by show (((w.alloc A).alloc B).alloc C).heap.size = _; simp
  refine ⟨?_, ?_, ⟨rfl, rfl, rfl, by rw [hs]; omega, fun k hk => ?_⟩, hs, ?_⟩
  · show (((w.alloc A).alloc B).alloc C).heap[w.heap.size + 1]? = _
    rw [Below.heap_alloc _ _ _ (by simp), heap_alloc2_new]
  · have := heap_alloc_last ((w.alloc A).alloc B) C
    simp only [World.size_alloc] at this
    exact this
  · show (((w.alloc A).alloc B).alloc C).heap[k]? = _
    rw [Below.heap_alloc _ _ _ (by simp; omega), Below.heap_alloc _ _ _ (by simp; omega), Below.heap_alloc _ _ _ hk]
  · show (((w.alloc A).alloc B).alloc C).heap[w.heap.size]? = _
    rw [Below.heap_alloc _ _ _ (by simp; omega), heap_alloc2_old]

theorem setRow_below {B : Nat} {w0 w : World} {g : Nat} (h : Below B w0 w) (hB : B ≤ g) (cs : Array Value) : Below B w0 (w.setRow g cs) :=
  h.trans ⟨rfl, rfl, rfl, by simp, fun k hk => setRow_other w g k cs (by omega)⟩

theorem row_size_no {ss : List ByteArray} {k : Nat} (hk : k < ss.length) (h : ¬ (goodRow (ss.getD k ByteArray.empty) ∧ (ss.getD k ByteArray.empty).size = (row0 ss).size)) : validB ss = false := by
  by_cases he : (ss.getD k ByteArray.empty).size = (row0 ss).size
  · have hg : ¬ goodRow (ss.getD k ByteArray.empty) := fun hh => h ⟨hh, he⟩
    by_cases hw : (row0 ss).size < 1 ∨ 16 < (row0 ss).size
    · exact valid_no_wd hw
    · refine valid_no_row hk ?_
      unfold rowB
      have : (ss.getD k ByteArray.empty).data.toList.all pixB = false := by
        cases hh : (ss.getD k ByteArray.empty).data.toList.all pixB with
        | false => rfl
        | true =>
          exfalso
          refine hg ⟨by omega, by omega, fun j hj => ?_⟩
          rw [List.all_eq_true] at hh
          exact hh _ (Array.mem_toList_iff.2 (Array.getElem_mem _))
      rw [this]; simp
  · refine valid_no_row hk ?_
    unfold rowB
    rw [decide_eq_false he, Bool.false_and]

theorem row_size_yes {ss : List ByteArray} (h1 : 1 ≤ ss.length) (h2 : ss.length ≤ 16) (h : ∀ j, j < ss.length → goodRow (ss.getD j ByteArray.empty) ∧ (ss.getD j ByteArray.empty).size = (row0 ss).size) : validB ss = true := by
  have h0 := (h 0 (by omega)).1
  refine valid_yes h1 h2 h0.1 h0.2.1 (fun j hj => ?_)
  have := h j hj
  unfold rowB
  rw [pix_all this.1.2.2, decide_eq_true this.2, Bool.and_self]

def zeros : Array Value := mcells 0 0 (fun _ => 0)
def wordsTo (ss : List ByteArray) (y j : Nat) : Nat := if j < y then rowWord (ss.getD j ByteArray.empty) else 0
theorem wordsTo_zero (ss : List ByteArray) (a b : Nat) : mat a b (wordsTo ss 0) = mcells a b (fun _ => 0) := by
  unfold mat; exact mcells_congr _ _ (fun j _ => by simp [wordsTo])
theorem wordsTo_set (ss : List ByteArray) (a b y : Nat) (hy : y < 16) : (mat a b (wordsTo ss y)).setIfInBounds (2 + y) (.int .u32 (rowWord (ss.getD y ByteArray.empty))) = mat a b (wordsTo ss (y + 1)) := by
  unfold mat
  rw [mcells_set _ _ _ y hy]
  refine mcells_congr _ _ (fun j _ => ?_)
  unfold wordsTo
  by_cases h : j = y
  · subst h; simp
  · by_cases h2 : j < y
    · simp [h, h2, show j < y + 1 from by omega]
    · simp [h, h2, show ¬ j < y + 1 from by omega]
theorem mat_size (a b : Nat) (g : Nat → Nat) : (mat a b g).size = 18 := rfl
theorem mat_one (a b : Nat) (g : Nat → Nat) : (mat a b g).all (·.oneCell') = true := mcells_one _ _ _
theorem mat_cell0 (a b : Nat) (g : Nat → Nat) : (mat a b g)[0]? = some (.int .i64 a) := rfl
theorem mat_cell1 (a b : Nat) (g : Nat → Nat) : (mat a b g)[1]? = some (.int .i64 b) := rfl
theorem mat_word (a b : Nat) (g : Nat → Nat) (j : Nat) (h : j < 16) : (mat a b g)[2 + j]? = some (.int .u32 (g j)) := mcells_word _ _ _ j h
theorem zeros_size : zeros.size = 18 := rfl

def wordsOf (ss : List ByteArray) (j : Nat) : Nat := if j < ss.length then rowWord (ss.getD j ByteArray.empty) else 0
/-- the matrix of rows -/
def matC (ss : List ByteArray) : Array Value := if validB ss = true then mat (row0 ss).size ss.length (wordsOf ss) else zeros
theorem matC_size (ss : List ByteArray) : (matC ss).size = 18 := by unfold matC; split <;> rfl
theorem matC_one (ss : List ByteArray) : (matC ss).all (·.oneCell') = true := by
  unfold matC; split
  · exact mcells_one _ _ _
  · exact mcells_one _ _ _
theorem matC_yes {ss : List ByteArray} (h : validB ss = true) : matC ss = mat (row0 ss).size ss.length (wordsOf ss) := by unfold matC; rw [if_pos h]
theorem matC_no {ss : List ByteArray} (h : validB ss = false) : matC ss = zeros := by unfold matC; rw [h]; rfl
/-- what matrixOf hands back -/
def MatOf (ss : List ByteArray) (w : World) (e : Ending) (w' : World) : Prop :=
  e = .returned (.tuple #[.agg (matC ss), .bool (validB ss)]) ∧ Below w.heap.size w w'

end Go.Proofs.YtabkkpifkkgpeaaDoor

/- Contracts of single functions, and plain lemmas, on which the exact laws of this seat rest; each holds under the conditions that it states. -/
namespace Go.Proofs.YtabkkpifkkgpeaaDoor
set_option linter.unusedVariables false
open Go.RowKit

/-- a picture of the call's own and a bool handed back -/
def SaysPic (ss : List ByteArray) (ok : Bool) (w : World) (e : Ending) (w' : World) : Prop :=
  ∃ ao n cap, e = .returned (.tuple #[.agg #[.slice ao n cap], .bool ok]) ∧ OwnP w' w.heap.size (.slice ao n cap) ss ∧ Below w.heap.size w w'
def NoPic (w : World) (e : Ending) (w' : World) : Prop := SaysPic [] false w e w'

theorem Tryd.info4 : (Tryd.prog.info? 4).map (fun i => (i.zero, i.size, i.bytes)) = some (some (.bool false), 1, 1) := by kernel_rfl

theorem own_set {w : World} {base n s P : Nat} {e : TypeId} {v u : Value} {cs : Array Value} {t : TypeId} {xs : List Value} (h : w.ownsRow base e s v n xs) (hP : w.heap[P]? = some (.cells cs t (0, 0))) (he : t ≠ e) : (w.setCell ⟨P, 0, none⟩ u).ownsRow base e s v n xs :=
  ownsRow_setCell_other h (a := ⟨P, 0, none⟩) (own_ne h hP he) u

theorem rep_false (n : Nat) (i : Nat) : (List.replicate n false).getD i false = false := by
  by_cases h : i < n
  · simp [List.getD, h]
  · simp [List.getD, h]
end Go.Proofs.YtabkkpifkkgpeaaDoor

/- Contracts of single functions, and plain lemmas, on which the exact laws of this seat rest; each holds under the conditions that it states. -/
namespace Go.Proofs.YtabkkpifkkgpeaaDoor
set_option linter.unusedVariables false
open Go.RowKit

/-- a variable of the call's own is kept while an owned row of another type grows -/
theorem var_grown {w w' : World} {base2 n2 s2 P : Nat} {e2 t : TypeId} {v2 : Value} {cs : Array Value} {xs2 : List Value} (h : w.heap[P]? = some (.cells cs t (0, 0))) (h2 : w.ownsRow base2 e2 s2 v2 n2 xs2) (he : t ≠ e2) (hg : w.grownBy w' v2.ownBlock) : w'.heap[P]? = some (.cells cs t (0, 0)) := var_far h h2 he hg

structure TwoPics (W : World) (b1 b2 lo hi : Nat) (u v : Value) (xs ys : List ByteArray) : Prop where
  c1 : W.heap[b1]? = some (.cells #[u] 42 (0, 0))
  c2 : W.heap[b2]? = some (.cells #[v] 42 (0, 0))
  o1 : OwnP W lo u xs
  o2 : OwnP W hi v ys
  lt : ∀ j, u.ownBlock = some j → j < hi

theorem TwoPics.below {W W' : World} {b1 b2 lo hi : Nat} {u v : Value} {xs ys : List ByteArray} (h : TwoPics W b1 b2 lo hi u v xs ys) (hb : Below W.heap.size W W') : TwoPics W' b1 b2 lo hi u v xs ys :=
  ⟨(hb.block _ (Array.getElem?_eq_some_iff.1 h.c1).1).trans h.c1, (hb.block _ (Array.getElem?_eq_some_iff.1 h.c2).1).trans h.c2, own_below h.o1 hb, own_below h.o2 hb, h.lt⟩
theorem TwoPics.marked {W W' : World} {b1 b2 lo hi : Nat} {u v : Value} {xs ys zs : List ByteArray} (h : TwoPics W b1 b2 lo hi u v xs ys) (ho : OwnP W' hi v zs) (hg : W.grownBy W' v.ownBlock) : TwoPics W' b1 b2 lo hi u v xs zs :=
  ⟨var_far h.c1 h.o2 (by decide) hg, var_far h.c2 h.o2 (by decide) hg, own_apart (k := 0) h.o1 h.o2 h.lt hg, ho, h.lt⟩
theorem TwoPics.v1 {W : World} {b1 b2 lo hi : Nat} {u v : Value} {xs ys : List ByteArray} (h : TwoPics W b1 b2 lo hi u v xs ys) : W.cell? ⟨b1, 0, none⟩ = some u := cell_of_one h.c1
theorem TwoPics.v2 {W : World} {b1 b2 lo hi : Nat} {u v : Value} {xs ys : List ByteArray} (h : TwoPics W b1 b2 lo hi u v xs ys) : W.cell? ⟨b2, 0, none⟩ = some v := cell_of_one h.c2

/-- want and got, each in a variable of its own, made one after the other -/
theorem TwoPics.mk' {w1 w2 : World} {lo : Nat} {u v : Value} {P : List ByteArray} (h1 : OwnP w1 lo u P) (h2 : OwnP w2 (w1.alloc (.cells #[u] 42)).heap.size v P) (hb2 : Below (w1.alloc (.cells #[u] 42)).heap.size (w1.alloc (.cells #[u] 42)) w2) :
    TwoPics (w2.alloc (.cells #[v] 42)) w1.heap.size w2.heap.size lo (w1.heap.size + 1) u v P P := by
  have hs := hb2.size
  simp at hs
  refine ⟨?_, heap_alloc_last w2 _, ?_, ?_, fun j hj => ?_⟩
  · rw [Below.heap_alloc _ _ _ (by omega), hb2.block _ (by simp)]; exact heap_alloc_last w1 _
  · exact (own_below (h1.alloc _) hb2).alloc _
  · have := h2.alloc (.cells #[v] 42)
    unfold OwnP
    simpa using this
  · have := (h1.lt j hj).2; omega

/-- want and got, each in a variable of its own (other rows), made one after the other -/
theorem TwoPics.mk2 {w1 w2 : World} {lo : Nat} {u v : Value} {P Q : List ByteArray} (h1 : OwnP w1 lo u P) (h2 : OwnP w2 (w1.alloc (.cells #[u] 42)).heap.size v Q) (hb2 : Below (w1.alloc (.cells #[u] 42)).heap.size (w1.alloc (.cells #[u] 42)) w2) :
    TwoPics (w2.alloc (.cells #[v] 42)) w1.heap.size w2.heap.size lo (w1.heap.size + 1) u v P Q := by
  have hs := hb2.size
  simp at hs
  refine ⟨?_, heap_alloc_last w2 _, ?_, ?_, fun j hj => ?_⟩
  · rw [Below.heap_alloc _ _ _ (by omega), hb2.block _ (by simp)]; exact heap_alloc_last w1 _
  · exact (own_below (h1.alloc _) hb2).alloc _
  · have := h2.alloc (.cells #[v] 42)
    unfold OwnP
    simpa using this
  · have := (h1.lt j hj).2; omega

theorem TwoPics.grow {w W W' : World} {b1 b2 lo hi : Nat} {u v : Value} {xs ys : List ByteArray} (h : TwoPics W b1 b2 lo hi u v xs ys) (hw : w.heap.size ≤ hi) (hb : Below w.heap.size w W) (hg : W.grownBy W' v.ownBlock) : Below w.heap.size w W' :=
  hb.grown hg hb.size (fun k hk => Nat.le_trans hw (h.o2.lt k hk).1)

theorem marks_bound {P : List ByteArray} (h : P.length ≤ 1048576) : 1 + P.length ≤ 9000000 := by omega
end Go.Proofs.YtabkkpifkkgpeaaDoor

/- Contracts of single functions, and plain lemmas, on which the exact laws of this seat rest; each holds under the conditions that it states. -/
namespace Go.Proofs.YtabkkpifkkgpeaaDoor
set_option linter.unusedVariables false
open Go.RowKit

/-! ### the list of a picture's pixels -/
def pixF (ss : List ByteArray) (y x : Nat) : Bool := blackAt (ss.getD y ByteArray.empty) x
def pixL (ss : List ByteArray) (wd N : Nat) : List Bool := (List.range N).map fun i => pixF ss (i / wd) (i % wd)
def boolV (l : List Bool) : List Value := l.map Value.bool
theorem pixL_len (ss : List ByteArray) (wd N : Nat) : (pixL ss wd N).length = N := by simp [pixL]
theorem pixL_snoc (ss : List ByteArray) (wd y x : Nat) (hx : x < wd) : boolV (pixL ss wd (y * wd + x + 1)) = boolV (pixL ss wd (y * wd + x)) ++ [.bool (pixF ss y x)] := by
  have h1 : (y * wd + x) / wd = y := by rw [Nat.mul_comm, Nat.mul_add_div (by omega), Nat.div_eq_of_lt hx, Nat.add_zero]
  have h2 : (y * wd + x) % wd = x := by rw [Nat.mul_comm, Nat.mul_add_mod, Nat.mod_eq_of_lt hx]
  simp [boolV, pixL, List.range_succ, h1, h2]
theorem pixL_at (ss : List ByteArray) (wd h y x : Nat) (hy : y < h) (hx : x < wd) : (pixL ss wd (wd * h)).getD (y * wd + x) false = pixF ss y x := by
  have h1 : (y * wd + x) / wd = y := by rw [Nat.mul_comm, Nat.mul_add_div (by omega), Nat.div_eq_of_lt hx, Nat.add_zero]
  have h2 : (y * wd + x) % wd = x := by rw [Nat.mul_comm, Nat.mul_add_mod, Nat.mod_eq_of_lt hx]
  have h3 : (y + 1) * wd ≤ h * wd := Nat.mul_le_mul_right _ hy
  rw [Nat.add_mul, Nat.one_mul, Nat.mul_comm h wd] at h3
  have hlt : y * wd + x < wd * h := by omega
  simp [pixL, List.getD, hlt, h1, h2]

def Listed (ss : List ByteArray) (w : World) (e : Ending) (w' : World) : Prop :=
  ∃ g cap, e = .returned (.slice (some ⟨g, 0, none⟩) ((row0 ss).size * ss.length) cap) ∧ w'.ownsRow w.heap.size 4 1 (.slice (some ⟨g, 0, none⟩) ((row0 ss).size * ss.length) cap) ((row0 ss).size * ss.length) (boolV (pixL ss (row0 ss).size ((row0 ss).size * ss.length))) ∧ Below w.heap.size w w'

theorem black35 (s : ByteArray) (x : Nat) (h : x < s.size) : (((s[x]'h).toNat : Int) == 35) = blackAt s x := by
  have hb := blackAt_eq s x h
  cases hbit : blackAt s x with
  | true =>
    rw [hbit] at hb
    have := beq_iff_eq.1 hb.symm
    rw [this]; rfl
  | false =>
    rw [hbit] at hb
    rw [beq_eq_false_iff_ne]
    intro e
    have := b35 (c := s[x]) (Int.ofNat_inj.1 e)
    rw [this] at hb
    exact absurd hb (by decide)
end Go.Proofs.YtabkkpifkkgpeaaDoor
