/- Contracts of single functions, and plain lemmas, on which the exact laws of this seat rest; each holds under the conditions that it states. -/
import Derived.Test.YtnmnlbgialolhaaDoorWd
import Derived.RegionTactic
import Derived.Deep.WholeRow
namespace Go.Proofs.YtnmnlbgialolhaaDoor
set_option linter.unusedVariables false
open Go.RowKit


section
variable {P : Program} {ops : Array Oper} {rest : List Oper} {o : Oper} {a : Act} {Q : Exit → Act → World → Prop}
/-- a whole row is loaded under a guard that says yes -/
theorem wpList_load_row_g {w : World} (hw : Region.wanted o (yielded ops a.tmps) = true) (ty : TypeId) (x : Operand) (ho : o.op = .load ty x)
    (g : Nat) (hx : a.eval x = .pointer (some ⟨g, 0, none⟩)) (t : TypeId) (cs : Array Value) (fr : Nat × Nat) (d : TypeDesc) (hg : w.heap[g]? = some (.cells cs t fr))
    (hu : P.underlying ty = some d) (hd : (match d with | .struct _ | .array _ _ => true | _ => false) = true) (hi : (P.info? ty).map (·.size) = some cs.size)
    (h : wpList P ops Q rest (a.put o.dst (.agg cs)) w) : wpList P ops Q (o :: rest) a w :=
  wpList_step fun K hK => by
    rw [if_pos hw]
    exact wp_load_row ty x ho g hx t cs fr d hg hu hd hi (hK _ _ h)
/-- a whole row is stored into the block that was made last -/
theorem wpList_store_new (w1 : World) (hgd : o.guard = none) (ty : TypeId) (x y : Operand) (ho : o.op = .store ty x y)
    (cells : Array Value) (hx : a.eval x = .pointer (some ⟨w1.heap.size, 0, none⟩)) (hy : a.eval y = .agg cells)
    (t : TypeId) (old : Array Value) (hi : (P.info? ty).map (·.size) = some cells.size)
    (hold : old.size = cells.size) (h1 : cells.all (·.oneCell') = true)
    (h : wpList P ops Q rest (a.put o.dst undef) (w1.alloc (.cells cells t))) : wpList P ops Q (o :: rest) a (w1.alloc (.cells old t)) :=
  wpList_store_row hgd ty x y ho w1.heap.size cells hx hy t old (heap_alloc_last w1 _) hi hold h1 (by rw [World.setRow_alloc_new]; exact h)
end

/-! ### matrices: eighteen cells: the width, the height, sixteen words -/
def mcells (a b : Int) (f : Nat → Int) : Array Value :=
  #[.int .i64 a, .int .i64 b, .int .u32 (f 0), .int .u32 (f 1), .int .u32 (f 2), .int .u32 (f 3), .int .u32 (f 4), .int .u32 (f 5), .int .u32 (f 6), .int .u32 (f 7),
    .int .u32 (f 8), .int .u32 (f 9), .int .u32 (f 10), .int .u32 (f 11), .int .u32 (f 12), .int .u32 (f 13), .int .u32 (f 14), .int .u32 (f 15)]
theorem mcells_size (a b : Int) (f : Nat → Int) : (mcells a b f).size = 18 := rfl
theorem mcells_one (a b : Int) (f : Nat → Int) : (mcells a b f).all (·.oneCell') = true := by simp [mcells, Value.oneCell']
theorem mcells_word (a b : Int) (f : Nat → Int) (j : Nat) (h : j < 16) : (mcells a b f)[2 + j]? = some (.int .u32 (f j)) := by
  have : j = 0 ∨ j = 1 ∨ j = 2 ∨ j = 3 ∨ j = 4 ∨ j = 5 ∨ j = 6 ∨ j = 7 ∨ j = 8 ∨ j = 9 ∨ j = 10 ∨ j = 11 ∨ j = 12 ∨ j = 13 ∨ j = 14 ∨ j = 15 := by omega
  rcases this with rfl | rfl | rfl | rfl | rfl | rfl | rfl | rfl | rfl | rfl | rfl | rfl | rfl | rfl | rfl | rfl <;> rfl
theorem mcells_set (a b : Int) (f : Nat → Int) (j : Nat) (h : j < 16) (x : Int) : (mcells a b f).setIfInBounds (2 + j) (.int .u32 x) = mcells a b (fun i => if i = j then x else f i) := by
  have : j = 0 ∨ j = 1 ∨ j = 2 ∨ j = 3 ∨ j = 4 ∨ j = 5 ∨ j = 6 ∨ j = 7 ∨ j = 8 ∨ j = 9 ∨ j = 10 ∨ j = 11 ∨ j = 12 ∨ j = 13 ∨ j = 14 ∨ j = 15 := by omega
  rcases this with rfl | rfl | rfl | rfl | rfl | rfl | rfl | rfl | rfl | rfl | rfl | rfl | rfl | rfl | rfl | rfl <;> rfl
theorem mcells_congr (a b : Int) {f g : Nat → Int} (h : ∀ j, j < 16 → f j = g j) : mcells a b f = mcells a b g := by
  unfold mcells
  rw [h 0 (by omega), h 1 (by omega), h 2 (by omega), h 3 (by omega), h 4 (by omega), h 5 (by omega), h 6 (by omega), h 7 (by omega), h 8 (by omega), h 9 (by omega), h 10 (by omega), h 11 (by omega), h 12 (by omega), h 13 (by omega), h 14 (by omega), h 15 (by omega)]
theorem infoM : (Tryd.prog.info? 63).map (·.size) = some 18 := by kernel_rfl

/-- a struct in a variable, and one thing more, handed back -/
theorem results_cell_tmp {P : Program} {fn : Func} {p q : Tmp} {ty : TypeId} (h : fn.results = #[.cell p ty, .tmp q]) (tmps : Array Value) (w : World) (g : Nat) (t : TypeId) (cs : Array Value) (fr : Nat × Nat) (d : TypeDesc)
    (hp : tmps.getD p undef = .pointer (some ⟨g, 0, none⟩)) (hg : w.heap[g]? = some (.cells cs t fr))
    (hu : P.underlying ty = some d) (hd : (match d with | .struct _ | .array _ _ => true | _ => false) = true) (hi : (P.info? ty).map (·.size) = some cs.size) :
    (results fn tmps).run P w = .ok (.tuple #[.agg cs, tmps.getD q undef]) w := by
  have hp' : tmps[p]?.getD undef = .pointer (some ⟨g, 0, none⟩) := by simpa using hp
  simp [results, h, hp', asAddr, run_loadVar_row w g t ty cs fr d hg hu hd hi]

def RetMat (a b : Int) (f : Nat → Int) (ok : Bool) (w : World) (e : Ending) (w' : World) : Prop := e = .returned (.tuple #[.agg (mcells a b f), .bool ok]) ∧ Below w.heap.size w w'

/-- what is known of the eighteen cells -/
structure Mat (C : Array Value) (a b : Int) (f : Nat → Int) : Prop where
  eq : C = mcells a b f
theorem Mat.size {C : Array Value} {a b : Int} {f : Nat → Int} (h : Mat C a b f) : C.size = 18 := by rw [h.eq]; rfl

def hasB (a b x y : Int) : Bool := decide (0 ≤ x) && decide (x < a) && decide (0 ≤ y) && decide (y < b)

set_option maxHeartbeats 400000 in
set_option maxRecDepth 100000 in
theorem has_any (C : Array Value) (a b : Int) (f : Nat → Int) (x y : Int) (w : World) (hC : Mat C a b f) :
    Calls Tryd.prog 115 #[.agg C, .int .i64 x, .int .i64 y] w (SaysB (hasB a b x y) w) := by
  have c0 : (w.alloc (.cells C 63)).cell? ⟨w.heap.size, 0, none⟩ = some (.int .i64 a) := by
    rw [World.cell?_alloc_mark]; rw [hC.eq]; rfl
  have c1 : (w.alloc (.cells C 63)).cell? ⟨w.heap.size, 1, none⟩ = some (.int .i64 b) := by
    rw [World.cell?_alloc_mark]; rw [hC.eq]; rfl
  clear hC
  by_cases h1 : 0 ≤ x
  · by_cases h2 : x < a
    · by_cases h3 : 0 ≤ y
      · have e : Hid (hasB a b x y = decide (y < b)) := by show hasB a b x y = _; simp [hasB, h1, h2, h3]
        go_enter Tryd.func115, Tryd.ntmps115
        go_wp2
        go_ret
        exact ⟨ret_bool e.out.symm, Joins.below_alloc1 _ _⟩
      · have e : Hid (hasB a b x y = false) := by show hasB a b x y = _; simp [hasB, h3]
        go_enter Tryd.func115, Tryd.ntmps115
        go_wp2
        go_ret
        exact ⟨ret_bool (a := false) e.out.symm, Joins.below_alloc1 _ _⟩
    · have e : Hid (hasB a b x y = false) := by show hasB a b x y = _; simp [hasB, h2]
      go_enter Tryd.func115, Tryd.ntmps115
      go_wp2
      go_ret
      exact ⟨ret_bool (a := false) e.out.symm, Joins.below_alloc1 _ _⟩
  · have e : Hid (hasB a b x y = false) := by show hasB a b x y = _; simp [hasB, h1]
    go_enter Tryd.func115, Tryd.ntmps115
    go_wp2
    go_ret
    exact ⟨ret_bool (a := false) e.out.symm, Joins.below_alloc1 _ _⟩
end Go.Proofs.YtnmnlbgialolhaaDoor

/- Contracts of single functions, and plain lemmas, on which the exact laws of this seat rest; each holds under the conditions that it states. -/
namespace Go.Proofs.YtnmnlbgialolhaaDoor
set_option linter.unusedVariables false
open Go.RowKit

/-- a matrix's cells: the words are natural numbers -/
def mat (a b : Nat) (g : Nat → Nat) : Array Value := mcells a b (fun j => (g j : Int))

def blackB (a b : Nat) (g : Nat → Nat) (x y : Int) : Bool := hasB a b x y && (g y.toNat).testBit x.toNat

theorem bit_shift (W x : Nat) (hW : W < 4294967296) : bits .and .u32 ((W : Int) / (2 : Int) ^ x) 1 = if W.testBit x then 1 else 0 := by
  have e : (W : Int) / (2 : Int) ^ x = ((W / 2 ^ x : Nat) : Int) := by simp
  have hlt : W / 2 ^ x < 4294967296 := Nat.lt_of_le_of_lt (Nat.div_le_self _ _) hW
  rw [e, show (1 : Int) = ((1 : Nat) : Int) from rfl, u32_and_nat _ 1 hlt (by omega), nat_mask1, Nat.testBit, Nat.shiftRight_eq_div_pow, ]
  have : 1 &&& W / 2 ^ x = (W / 2 ^ x) % 2 := nat_mask1' _
  rw [this]
  rcases Nat.mod_two_eq_zero_or_one (W / 2 ^ x) with h | h <;> simp [h]

set_option maxHeartbeats 400000 in
set_option maxRecDepth 100000 in
theorem black_any (C : Array Value) (a b : Nat) (g : Nat → Nat) (x y : Int) (w : World) (hC : C = mat a b g) (ha : a ≤ 16) (hb : b ≤ 16) (hg : ∀ j, g j < 4294967296) :
    Calls Tryd.prog 90 #[.agg C, .int .i64 x, .int .i64 y] w (SaysB (blackB a b g x y) w) := by
  have hh := fun W => has_any C a b (fun j => (g j : Int)) x y W ⟨hC⟩
  have HH := Lib.hid hh
  have hsz : C.size = 18 := by rw [hC]; rfl
  have HI : (Tryd.prog.info? 63).map (·.size) = some C.size := by rw [hsz]; exact infoM
  have HI' := Lib.hid HI
  clear hh HI
  by_cases hin : hasB a b x y = true
  · have hin2 := hin
    unfold hasB at hin2
    simp at hin2
    obtain ⟨⟨⟨hx0, hx1⟩, hy0⟩, hy1⟩ := hin2
    obtain ⟨p, rfl⟩ := Int.eq_ofNat_of_zero_le hx0
    obtain ⟨q, rfl⟩ := Int.eq_ofNat_of_zero_le hy0
    have hq : q < 16 := by omega
    have cq : (w.alloc (.cells C 63)).cell? ⟨w.heap.size, 2 + q, none⟩ = some (.int .u32 (g q)) := by
      rw [World.cell?_alloc_mark, hC]; exact mcells_word _ _ _ q hq
    have bs := bit_shift (g q) p (hg q)
    have hval : Hid (blackB a b g p q = (g q).testBit p) := by show blackB a b g p q = _; unfold blackB; rw [hin]; simp
    have HIN := Lib.hid hin
    obtain ⟨W, hW⟩ : ∃ W, g q = W := ⟨_, rfl⟩
    rw [hW] at cq bs hval
    clear hin hC hsz hg hW
    cases hbit : W.testBit p with
    | true =>
      rw [hbit] at bs hval
      have bs' : bits .and .u32 ((W : Int) / (2 : Int) ^ p) 1 = 1 := bs
      clear bs hbit
      go_enter Tryd.func90, Tryd.ntmps90
      go_wp2_with (refine wpList_load_row rfl 63 _ rfl w.heap.size rfl 63 C (0, 0) _ (heap_alloc_last w _) Tryd.underlying63 rfl HI'.out ?_)
      refine (HH.out _).mono ?_
      rintro e w1 ⟨rfl, hb1⟩
      rw [HIN.out]
      have cq1 := (hb1.cell (p := ⟨w.heap.size, 2 + q, none⟩) (by simp)).trans cq
      have HB := Lib.hid hb1
      clear hb1 cq
      go_wp2
      go_ret
      exact ⟨ret_bool (a := true) hval.out.symm, (Joins.below_alloc1 _ _).trans (HB.out.mono (by simp))⟩
    | false =>
      rw [hbit] at bs hval
      have bs' : bits .and .u32 ((W : Int) / (2 : Int) ^ p) 1 = 0 := bs
      clear bs hbit
      go_enter Tryd.func90, Tryd.ntmps90
      go_wp2_with (refine wpList_load_row rfl 63 _ rfl w.heap.size rfl 63 C (0, 0) _ (heap_alloc_last w _) Tryd.underlying63 rfl HI'.out ?_)
      refine (HH.out _).mono ?_
      rintro e w1 ⟨rfl, hb1⟩
      rw [HIN.out]
      have cq1 := (hb1.cell (p := ⟨w.heap.size, 2 + q, none⟩) (by simp)).trans cq
      have HB := Lib.hid hb1
      clear hb1 cq
      go_wp2
      go_ret
      exact ⟨ret_bool (a := false) hval.out.symm, (Joins.below_alloc1 _ _).trans (HB.out.mono (by simp))⟩
  · have hin' : hasB a b x y = false := by simpa using hin
    have hval : Hid (blackB a b g x y = false) := by show blackB a b g x y = _; unfold blackB; rw [hin']; simp
    have HIN := Lib.hid hin'
    clear hin hin' hC hsz
    go_enter Tryd.func90, Tryd.ntmps90
    go_wp2_with (refine wpList_load_row rfl 63 _ rfl w.heap.size rfl 63 C (0, 0) _ (heap_alloc_last w _) Tryd.underlying63 rfl HI'.out ?_)
    refine (HH.out _).mono ?_
    rintro e w1 ⟨rfl, hb1⟩
    rw [HIN.out]
    have HB := Lib.hid hb1
    clear hb1
    go_wp2
    go_ret
    exact ⟨ret_bool (a := false) hval.out.symm, (Joins.below_alloc1 _ _).trans (HB.out.mono (by simp))⟩
end Go.Proofs.YtnmnlbgialolhaaDoor

/- Contracts of single functions, and plain lemmas, on which the exact laws of this seat rest; each holds under the conditions that it states. -/
namespace Go.Proofs.YtnmnlbgialolhaaDoor
set_option linter.unusedVariables false
open Go.RowKit

theorem setCells_block (g : Nat) (t : TypeId) : ∀ (cs : List Value) (o : Nat) (c : Array Value) (w : World), w.heap[g]? = some (.cells c t (0, 0)) → o + cs.length = c.size →
    (w.setCells g o cs).heap[g]? = some (.cells (c.toList.take o ++ cs).toArray t (0, 0))
  | [], o, c, w, h, hl => by
    unfold World.setCells
    rw [h, List.append_nil, List.take_of_length_le (by simp at hl; simp; omega)]
  | v :: r, o, c, w, h, hl => by
    have hl' : o + (r.length + 1) = c.size := hl
    unfold World.setCells
    rw [setCells_block g t r (o + 1) (c.setIfInBounds o v) _ (Joins.block_setCell h v) (by simp; omega)]
    have e : (c.setIfInBounds o v).toList.take (o + 1) ++ r = c.toList.take o ++ v :: r := by
      rw [Array.toList_setIfInBounds, List.take_add_one, List.take_set_of_le (by omega), List.getElem?_set_self (by simp; omega)]
      simp
    rw [e]
theorem setCells_far (g k : Nat) (hk : k ≠ g) : ∀ (cs : List Value) (o : Nat) (w : World), (w.setCells g o cs).heap[k]? = w.heap[k]?
  | [], _, _ => rfl
  | v :: r, o, w => by
    unfold World.setCells
    rw [setCells_far g k hk r (o + 1) _, Below.heap_setCell _ _ _ _ hk]
theorem setCells_rest (g : Nat) : ∀ (cs : List Value) (o : Nat) (w : World), (w.setCells g o cs).os = w.os ∧ (w.setCells g o cs).tape = w.tape ∧ (w.setCells g o cs).output = w.output ∧ (w.setCells g o cs).heap.size = w.heap.size
  | [], _, _ => ⟨rfl, rfl, rfl, rfl⟩
  | v :: r, o, w => by
    unfold World.setCells
    obtain ⟨a, b, c, d⟩ := setCells_rest g r (o + 1) (w.setCell ⟨g, o, none⟩ v)
    exact ⟨a, b, c, by rw [d]; simp [World.setCell]⟩

/-- three new blocks, the last one stored whole -/
theorem three_new (w : World) (A B C : Obj) (c : Array Value) (t : TypeId) (hC : C = .cells c t (0, 0)) (cs : List Value) (hl : cs.length = c.size) (W : World) (hW : W = (((w.alloc A).alloc B).alloc C).drew.setCells (w.heap.size + 1 + 1) 0 cs) :
    W.heap[w.heap.size]? = some A ∧ W.heap[w.heap.size + 1]? = some B ∧ W.heap[w.heap.size + 1 + 1]? = some (.cells cs.toArray t (0, 0)) ∧ Below w.heap.size w W ∧ W.heap.size = w.heap.size + 3 := by
  subst hC hW
  have h0 : ((((w.alloc A).alloc B).alloc (.cells c t (0, 0))).drew).heap[w.heap.size + 1 + 1]? = some (.cells c t (0, 0)) := by
    show (((w.alloc A).alloc B).alloc (.cells c t (0, 0))).heap[w.heap.size + 1 + 1]? = _
    have := heap_alloc_last ((w.alloc A).alloc B) (.cells c t (0, 0))
    simpa using this
  have h1 := setCells_block (w.heap.size + 1 + 1) t cs 0 c _ h0 (by omega)
  have hf : ∀ k, k < w.heap.size + 1 + 1 → ((((w.alloc A).alloc B).alloc (.cells c t (0, 0))).drew.setCells (w.heap.size + 1 + 1) 0 cs).heap[k]? = ((w.alloc A).alloc B).heap[k]? := fun k hk => by
    rw [setCells_far _ _ (by omega)]
    exact Below.heap_alloc _ _ _ (by simpa using hk)
  obtain ⟨r1, r2, r3, r4⟩ := setCells_rest (w.heap.size + 1 + 1) cs 0 ((((w.alloc A).alloc B).alloc (.cells c t (0, 0))).drew)
  have hs : ((((w.alloc A).alloc B).alloc (.cells c t (0, 0))).drew).heap.size = w.heap.size + 3 := by show (((w.alloc A).alloc B).alloc (.cells c t (0, 0))).heap.size = _; simp
  refine ⟨?_, ?_, ?_, ⟨r1, r2, r3, by rw [r4, hs]; omega, fun k hk => ?_⟩, by rw [r4, hs]⟩
  · rw [hf _ (by omega), heap_alloc2_old]
  · rw [hf _ (by omega), heap_alloc2_new]
  · rw [h1]; simp
  · rw [hf _ (by omega), Below.heap_alloc _ _ _ (by simp; omega), Below.heap_alloc _ _ _ hk]

theorem three_cell (w : World) (A B C : Obj) (b o : Nat) (hb : b < w.heap.size) : (((w.alloc A).alloc B).alloc C).drew.cell? ⟨b, o, none⟩ = w.cell? ⟨b, o, none⟩ :=
  World.cell?_of_block (w := w) (by show (((w.alloc A).alloc B).alloc C).heap[b]? = _; rw [Below.heap_alloc _ _ _ (by simp; omega), Below.heap_alloc _ _ _ (by simp; omega), Below.heap_alloc _ _ _ hb])
theorem three_cell' (w : World) (A B C : Obj) (cs : List Value) (b o : Nat) (hb : b < w.heap.size) : ((((w.alloc A).alloc B).alloc C).drew.setCells (w.heap.size + 1 + 1) 0 cs).cell? ⟨b, o, none⟩ = w.cell? ⟨b, o, none⟩ :=
  (World.cell?_of_block (w := (((w.alloc A).alloc B).alloc C).drew) (setCells_far _ _ (by show b ≠ _; omega) cs 0 _)).trans (three_cell w A B C b o hb)
theorem three_first (w : World) (v : Value) (t : TypeId) (B C : Obj) : (((w.alloc (.cells #[v] t)).alloc B).alloc C).drew.cell? ⟨w.heap.size, 0, none⟩ = some v := by
  refine (World.cell?_of_block (w := w.alloc (.cells #[v] t)) ?_).trans (by rw [World.cell?_alloc_mark]; rfl)
  show (((w.alloc (.cells #[v] t)).alloc B).alloc C).heap[w.heap.size]? = _
  rw [Below.heap_alloc _ _ _ (by simp; omega), Below.heap_alloc _ _ _ (by simp)]
theorem three_first' (w : World) (v : Value) (t : TypeId) (B C : Obj) (cs : List Value) : ((((w.alloc (.cells #[v] t)).alloc B).alloc C).drew.setCells (w.heap.size + 1 + 1) 0 cs).cell? ⟨w.heap.size, 0, none⟩ = some v :=
  (World.cell?_of_block (w := (((w.alloc (.cells #[v] t)).alloc B).alloc C).drew) (setCells_far _ _ (by show w.heap.size ≠ w.heap.size + 1 + 1; omega) cs 0 _)).trans (three_first w v t B C)

theorem three_now (w : World) (A B C : Obj) (W : World) (hW : (((w.alloc A).alloc B).alloc C).drew = W) :
    W.heap[w.heap.size + 1]? = some B ∧ W.heap[w.heap.size + 1 + 1]? = some C ∧ Below w.heap.size w W ∧ W.heap.size = w.heap.size + 3 ∧ W.heap[w.heap.size]? = some A := by
  subst hW
  have hs : ((((w.alloc A).alloc B).alloc C).drew).heap.size = w.heap.size + 3 := by show (((w.alloc A).alloc B).alloc C).heap.size = _; simp
  refine ⟨?_, ?_, ⟨rfl, rfl, rfl, by rw [hs]; omega, fun k hk => ?_⟩, hs, ?_⟩
  · show (((w.alloc A).alloc B).alloc C).heap[w.heap.size + 1]? = _
    rw [Below.heap_alloc _ _ _ (by simp), heap_alloc2_new]
  · have := heap_alloc_last ((w.alloc A).alloc B) C
    simp only [World.size_alloc] at this
    exact this
  · show (((w.alloc A).alloc B).alloc C).heap[k]? = _
    rw [Below.heap_alloc _ _ _ (by simp; omega), Below.heap_alloc _ _ _ (by simp; omega), Below.heap_alloc _ _ _ hk]
  · show (((w.alloc A).alloc B).alloc C).heap[w.heap.size]? = _
    rw [Below.heap_alloc _ _ _ (by simp; omega), heap_alloc2_old]

theorem setRow_below {B : Nat} {w0 w : World} {g : Nat} (h : Below B w0 w) (hB : B ≤ g) (cs : Array Value) : Below B w0 (w.setRow g cs) :=
  h.trans ⟨rfl, rfl, rfl, by simp, fun k hk => setRow_other w g k cs (by omega)⟩

theorem row_size_no {ss : List ByteArray} {k : Nat} (hk : k < ss.length) (h : ¬ (goodRow (ss.getD k ByteArray.empty) ∧ (ss.getD k ByteArray.empty).size = (row0 ss).size)) : validB ss = false := by
  by_cases he : (ss.getD k ByteArray.empty).size = (row0 ss).size
  · have hg : ¬ goodRow (ss.getD k ByteArray.empty) := fun hh => h ⟨hh, he⟩
    by_cases hw : (row0 ss).size < 1 ∨ 16 < (row0 ss).size
    · exact valid_no_wd hw
    · refine valid_no_row hk ?_
      unfold rowB
      have : (ss.getD k ByteArray.empty).data.toList.all pixB = false := by
        cases hh : (ss.getD k ByteArray.empty).data.toList.all pixB with
        | false => rfl
        | true =>
          exfalso
          refine hg ⟨by omega, by omega, fun j hj => ?_⟩
          rw [List.all_eq_true] at hh
          exact hh _ (Array.mem_toList_iff.2 (Array.getElem_mem _))
      rw [this]; simp
  · refine valid_no_row hk ?_
    unfold rowB
    rw [decide_eq_false he, Bool.false_and]

theorem row_size_yes {ss : List ByteArray} (h1 : 1 ≤ ss.length) (h2 : ss.length ≤ 16) (h : ∀ j, j < ss.length → goodRow (ss.getD j ByteArray.empty) ∧ (ss.getD j ByteArray.empty).size = (row0 ss).size) : validB ss = true := by
  have h0 := (h 0 (by omega)).1
  refine valid_yes h1 h2 h0.1 h0.2.1 (fun j hj => ?_)
  have := h j hj
  unfold rowB
  rw [pix_all this.1.2.2, decide_eq_true this.2, Bool.and_self]

def zeros : Array Value := mcells 0 0 (fun _ => 0)
def wordsTo (ss : List ByteArray) (y j : Nat) : Nat := if j < y then rowWord (ss.getD j ByteArray.empty) else 0
theorem wordsTo_zero (ss : List ByteArray) (a b : Nat) : mat a b (wordsTo ss 0) = mcells a b (fun _ => 0) := by
  unfold mat; exact mcells_congr _ _ (fun j _ => by simp [wordsTo])
theorem wordsTo_set (ss : List ByteArray) (a b y : Nat) (hy : y < 16) : (mat a b (wordsTo ss y)).setIfInBounds (2 + y) (.int .u32 (rowWord (ss.getD y ByteArray.empty))) = mat a b (wordsTo ss (y + 1)) := by
  unfold mat
  rw [mcells_set _ _ _ y hy]
  refine mcells_congr _ _ (fun j _ => ?_)
  unfold wordsTo
  by_cases h : j = y
  · subst h; simp
  · by_cases h2 : j < y
    · simp [h, h2, show j < y + 1 from by omega]
    · simp [h, h2, show ¬ j < y + 1 from by omega]
theorem mat_size (a b : Nat) (g : Nat → Nat) : (mat a b g).size = 18 := rfl
theorem mat_one (a b : Nat) (g : Nat → Nat) : (mat a b g).all (·.oneCell') = true := mcells_one _ _ _
theorem mat_cell0 (a b : Nat) (g : Nat → Nat) : (mat a b g)[0]? = some (.int .i64 a) := rfl
theorem mat_cell1 (a b : Nat) (g : Nat → Nat) : (mat a b g)[1]? = some (.int .i64 b) := rfl
theorem mat_word (a b : Nat) (g : Nat → Nat) (j : Nat) (h : j < 16) : (mat a b g)[2 + j]? = some (.int .u32 (g j)) := mcells_word _ _ _ j h
theorem zeros_size : zeros.size = 18 := rfl

def wordsOf (ss : List ByteArray) (j : Nat) : Nat := if j < ss.length then rowWord (ss.getD j ByteArray.empty) else 0
/-- the matrix of rows -/
def matC (ss : List ByteArray) : Array Value := if validB ss = true then mat (row0 ss).size ss.length (wordsOf ss) else zeros
theorem matC_size (ss : List ByteArray) : (matC ss).size = 18 := by unfold matC; split <;> rfl
theorem matC_one (ss : List ByteArray) : (matC ss).all (·.oneCell') = true := by
  unfold matC; split
  · exact mcells_one _ _ _
  · exact mcells_one _ _ _
theorem matC_yes {ss : List ByteArray} (h : validB ss = true) : matC ss = mat (row0 ss).size ss.length (wordsOf ss) := by unfold matC; rw [if_pos h]
theorem matC_no {ss : List ByteArray} (h : validB ss = false) : matC ss = zeros := by unfold matC; rw [h]; rfl
/-- what matrixOf hands back -/
def MatOf (ss : List ByteArray) (w : World) (e : Ending) (w' : World) : Prop :=
  e = .returned (.tuple #[.agg (matC ss), .bool (validB ss)]) ∧ Below w.heap.size w w'

end Go.Proofs.YtnmnlbgialolhaaDoor

/- Contracts of single functions, and plain lemmas, on which the exact laws of this seat rest; each holds under the conditions that it states. -/
namespace Go.Proofs.YtnmnlbgialolhaaDoor
set_option linter.unusedVariables false
open Go.RowKit

set_option maxHeartbeats 1000000 in
set_option maxRecDepth 100000 in
theorem matrixOf_len (v : Value) (ss : List ByteArray) (w : World) (hN : ss.length ≤ 2 ^ 63 - 1) (hv : Sl w v ss) (hl : ss.length < 1 ∨ 16 < ss.length) :
    Calls Tryd.prog 88 #[.agg #[v]] w (MatOf ss w) := by
  have fv : ∃ ao cap, v = .slice ao ss.length cap := by
    rcases hv with ⟨ao, cap, rfl, rfl⟩ | ⟨b, off, cap, rfl, _⟩
    · exact ⟨_, _, rfl⟩
    · exact ⟨_, _, rfl⟩
  have HNo := Lib.hid (valid_no_len hl)
  obtain ⟨ao, cap, rfl⟩ := fv
  obtain ⟨n, hn⟩ : ∃ n, ss.length = n := ⟨_, rfl⟩
  rw [hn] at hN hl ⊢
  have hz0 : ((w.alloc (.cells #[.slice ao n cap] 26)).alloc (.cells zeros 63)).heap[w.heap.size + 1]? = some (.cells zeros 63 (0, 0)) := heap_alloc2_new _ _ _
  have HZ0 := Lib.hid hz0
  clear hv hn hz0
  rcases hl with hl | hl
  · obtain rfl : n = 0 := by omega
    go_enter Tryd.func88, Tryd.ntmps88
    go_wp2_with (refine wpList_store_row rfl 63 _ _ rfl (w.heap.size + 1) zeros rfl rfl 63 zeros HZ0.out infoM rfl (mcells_one _ _ _) ?_)
    exact bodyPost_ret (results_cell_tmp rfl _ _ (w.heap.size + 1) 63 zeros (0, 0) _ rfl (setRow_heap _ _ _ _ _ _ HZ0.out) Tryd.underlying63 rfl infoM) rfl ⟨by rw [matC_no HNo.out, HNo.out]; rfl, setRow_below (Joins.below_alloc2 w _ _) (by omega) _⟩
  · have hd1 : decide ((n : Int) < 1) = false := by simp; omega
    have hd2 : decide ((16 : Int) < (n : Int)) = true := by simp; omega
    go_enter Tryd.func88, Tryd.ntmps88
    go_wp2_with (refine wpList_store_row rfl 63 _ _ rfl (w.heap.size + 1) zeros rfl rfl 63 zeros HZ0.out infoM rfl (mcells_one _ _ _) ?_)
    exact bodyPost_ret (results_cell_tmp rfl _ _ (w.heap.size + 1) 63 zeros (0, 0) _ rfl (setRow_heap _ _ _ _ _ _ HZ0.out) Tryd.underlying63 rfl infoM) rfl ⟨by rw [matC_no HNo.out, HNo.out]; rfl, setRow_below (Joins.below_alloc2 w _ _) (by omega) _⟩

set_option maxHeartbeats 2000000 in
set_option maxRecDepth 100000 in
theorem matrixOf_any (v : Value) (ss : List ByteArray) (w : World) (hN : ss.length ≤ maxLen) (hz : ∀ s ∈ ss, s.size ≤ maxLen) (hv : Sl w v ss) (he : ErrLen w) :
    Calls Tryd.prog 88 #[.agg #[v]] w (MatOf ss w) := by
  unfold maxLen at hN hz
  by_cases hl : ss.length < 1 ∨ 16 < ss.length
  · exact matrixOf_len v ss w hN hv hl
  · rcases hv with ⟨ao, cap, rfl, rfl⟩ | ⟨b, off, cap, rfl, hpos, hb, hc⟩
    · simp at hl
    · have hc0 := hc 0 hpos
      have hr0 : ss.getD 0 ByteArray.empty = row0 ss := rfl
      rw [Nat.add_zero, hr0] at hc0
      have hs0 : (row0 ss).size ≤ 2 ^ 63 - 1 := by
        refine hz _ ?_
        unfold row0
        rw [List.getD_eq_getElem?_getD, List.getElem?_eq_getElem hpos]
        exact List.getElem_mem _
      obtain ⟨n, hn⟩ : ∃ n, ss.length = n := ⟨_, rfl⟩
      obtain ⟨s0, hs⟩ : ∃ s, row0 ss = s := ⟨_, rfl⟩
      rw [hs] at hc0 hs0
      rw [hn] at hc hpos hl ⊢
      have HC := Lib.hid hc
      have k2 : (0 : Int) < (n : Int) := by omega
      have hd1 : decide ((n : Int) < 1) = false := by simp; omega
      have hd2 : decide ((16 : Int) < (n : Int)) = false := by simp; omega
      have hb1 : b ≠ w.heap.size := by omega
      have hb2 : b ≠ w.heap.size + 1 := by omega
      have hb3 : b ≠ w.heap.size + 1 + 1 := by omega
      have hin := infoM
      have hone : ∀ v ∈ (mcells (s0.size : Int) (n : Int) (fun _ => 0)).toList, v.oneCell' = true := fun v hv => by
        have := mcells_one (s0.size : Int) (n : Int) (fun _ => 0)
        rw [Array.all_eq_true_iff_forall_mem] at this
        exact this v (by simpa using hv)
      have hth : ((((w.alloc (.cells #[.slice (some ⟨b, off, none⟩) n cap] 26)).alloc (.cells (mcells 0 0 (fun _ => 0)) 63)).alloc (.cells (mcells 0 0 (fun _ => 0)) 63)).drew).there (w.heap.size + 1 + 1) 0 18 := by
        intro j hj
        have hh : ((((w.alloc (.cells #[.slice (some ⟨b, off, none⟩) n cap] 26)).alloc (.cells (mcells 0 0 (fun _ => 0)) 63)).alloc (.cells (mcells 0 0 (fun _ => 0)) 63)).drew).heap[w.heap.size + 1 + 1]? = some (.cells (mcells 0 0 (fun _ => 0)) 63 (0, 0)) := by
          have := heap_alloc_last ((w.alloc (.cells #[.slice (some ⟨b, off, none⟩) n cap] 26)).alloc (.cells (mcells 0 0 (fun _ => 0)) 63)) (.cells (mcells 0 0 (fun _ => 0)) 63)
          simp only [World.size_alloc] at this
          exact this
        rw [Joins.cell_of_block hh, Joins.unfrozen_of_block hh, Nat.zero_add]
        exact ⟨by rw [Array.getElem?_eq_getElem (by rw [mcells_size]; exact hj)]; rfl, rfl⟩
      have HN := Lib.hid hn
      have HS0 := Lib.hid hs
      have HE := Lib.hid he
      clear hs hc hn hN hz hr0 he
      go_enter Tryd.func88, Tryd.ntmps88
      go_wp2
      go_region_held3 (fun w' => w'.cell? ⟨w.heap.size, 0, none⟩ = some (.slice (some ⟨b, off, none⟩) n cap) ∧ w'.cell? ⟨b, off, none⟩ = some (.string s0)) (first | (go_keep; done) | exact ⟨three_first _ _ _ _ _, (three_cell _ _ _ _ _ _ hb).trans hc0⟩ | exact ⟨three_first' _ _ _ _ _ _, (three_cell' _ _ _ _ _ _ _ hb).trans hc0⟩) (fail)
      generalize hW : ((((w.alloc _).alloc _).alloc _).drew) = W
      have hw3 := three_now _ _ _ _ _ hW
      obtain ⟨hB1, hC1, hbelW, hWs, _⟩ := hw3
      have hA1 : W.cell? ⟨w.heap.size, 0, none⟩ = some (.slice (some ⟨b, off, none⟩) n cap) := by rw [← hW]; exact three_first _ _ _ _ _
      have hB1 : W.heap[w.heap.size + 1]? = some (.cells zeros 63 (0, 0)) := hB1
      have hC1 : W.heap[w.heap.size + 1 + 1]? = some (.cells (mat s0.size n (wordsTo ss 0)) 63 (0, 0)) := by rw [wordsTo_zero]; exact hC1
      clear hW hth hone hin hc0
      rename_i hHeld
      clear hHeld
      go_wp2
      go_loopw [5, 6, 7, 8, 32] (fun _ _ _ _ tv wr => ∃ y : Nat, y ≤ n ∧ tv = .int .i64 y ∧ Hid (∀ j, j < y → goodRow (ss.getD j ByteArray.empty) ∧ (ss.getD j ByteArray.empty).size = s0.size) ∧ wr.heap[w.heap.size + 1]? = some (.cells zeros 63 (0, 0)) ∧ wr.heap[w.heap.size + 1 + 1]? = some (.cells (mat s0.size n (wordsTo ss y)) 63 (0, 0)) ∧ Below w.heap.size w wr ∧ w.heap.size + 3 ≤ wr.heap.size) (fun _ _ _ _ tv _ => n - (intOf tv).toNat)
      case atStart => exact ⟨0, Nat.zero_le _, rfl, fun j h => by omega, hB1, hC1, hbelW, by omega⟩
      case round =>
        clear hB1 hC1 hbelW hA1
        obtain ⟨y, hy, rfl, H, hB1, hC1, hbel, hsz⟩ := hrel
        by_cases hlt : y < n
        · have hcell := (hbel.cell (p := ⟨b, off + y, none⟩) hb).trans (HC.out y hlt)
          obtain ⟨s, hs⟩ : ∃ s, ss.getD y ByteArray.empty = s := ⟨_, rfl⟩
          rw [hs] at hcell
          have k0 : (0 : Int) ≤ (y : Int) := by omega
          have k1 : (y : Int) < (n : Int) := by omega
          by_cases hgood : goodRow s
          · have cw := Lib.hid (wordOfRow_yes s wr hgood)
            have hsz2 := hgood.2.1
            have HBl := Lib.hid hbel
            have HB1 := Lib.hid hB1
            have HC1 := Lib.hid hC1
            obtain ⟨W2, hW2⟩ : ∃ x, rowWord s = x := ⟨_, rfl⟩
            rw [hW2] at cw
            by_cases he : s.size = s0.size
            · have HG : Hid (goodRow (ss.getD y ByteArray.empty) ∧ (ss.getD y ByteArray.empty).size = s0.size) := by rw [hs]; exact ⟨hgood, he⟩
              have hne : ((s.size : Int) != (s0.size : Int)) = false := by simp [he]
              have hset := Lib.hid (wordsTo_set ss s0.size n y (by omega))
              rw [hs, hW2] at hset
              clear hs hgood hbel hB1 hC1 he hW2
              go_wp2_with fail
              refine cw.out.mono ?_
              rintro e w1 ⟨rfl, hb1⟩
              have f1 := (hb1.block (w.heap.size + 1) (by omega)).trans HB1.out
              have f2 := (hb1.block (w.heap.size + 1 + 1) (by omega)).trans HC1.out
              have q0 : w1.cell? ⟨w.heap.size + 1 + 1, 0, none⟩ = some (.int .i64 s0.size) := (Joins.cell_of_block f2 0).trans (mat_cell0 _ _ _)
              have qy : w1.cell? ⟨w.heap.size + 1 + 1, 2 + y, none⟩ = some (.int .u32 (wordsTo ss y y)) := (Joins.cell_of_block f2 (2 + y)).trans (mat_word _ _ _ y (by omega))
              have qf : w1.frozen? ⟨w.heap.size + 1 + 1, 2 + y, none⟩ = false := Joins.unfrozen_of_block f2 _
              have F1 := Lib.hid f1
              have F2 := Lib.hid f2
              have HB2 := Lib.hid (HBl.out.trans (hb1.mono HBl.out.size))
              have hs1 := hb1.size
              clear hb1 f1 f2
              go_wp2
              go_roundw
              case rel => exact ⟨y + 1, by omega, by go_num, fun j hj => by
                by_cases e : j = y
                · subst e; exact HG.out
                · exact H.out j (by omega), (Below.heap_setCell _ _ _ _ (by show w.heap.size + 1 ≠ w.heap.size + 1 + 1; omega)).trans F1.out, by rw [← hset.out]; exact Joins.block_setCell F2.out _, HB2.out.setCell (by show w.heap.size ≤ w.heap.size + 1 + 1; omega) _, by simp [World.setCell]; omega⟩
              case measure => simp [intOf]; omega
            · have hno : validB ss = false := row_size_no (k := y) (by rw [HN.out]; exact hlt) (by rw [hs, HS0.out]; exact fun h => he h.2)
              have hne : ((s.size : Int) != (s0.size : Int)) = true := by rw [bne_iff_ne]; omega
              have HNo := Lib.hid hno
              clear hs hgood hbel hB1 hC1 he hW2 hno
              go_wp2_with fail
              refine cw.out.mono ?_
              rintro e w1 ⟨rfl, hb1⟩
              have f1 := (hb1.block (w.heap.size + 1) (by omega)).trans HB1.out
              have f2 := (hb1.block (w.heap.size + 1 + 1) (by omega)).trans HC1.out
              have q0 : w1.cell? ⟨w.heap.size + 1 + 1, 0, none⟩ = some (.int .i64 s0.size) := (Joins.cell_of_block f2 0).trans (mat_cell0 _ _ _)
              have F1 := Lib.hid f1
              have HB2 := Lib.hid (HBl.out.trans (hb1.mono HBl.out.size))
              clear hb1 f1 f2
              go_wp2_with (refine wpList_store_row rfl 63 _ _ rfl (w.heap.size + 1) zeros rfl rfl 63 zeros F1.out infoM rfl (mcells_one _ _ _) ?_)
              exact bodyPost_ret (results_cell_tmp rfl _ _ (w.heap.size + 1) 63 zeros (0, 0) _ rfl (setRow_heap _ _ _ _ _ _ F1.out) Tryd.underlying63 rfl infoM) rfl ⟨by rw [matC_no HNo.out, HNo.out]; rfl, setRow_below HB2.out (by omega) _⟩
          · have hno : validB ss = false := row_size_no (k := y) (by rw [HN.out]; exact hlt) (by rw [hs]; exact fun h => hgood h.1)
            have HNo := Lib.hid hno
            have HBl := Lib.hid hbel
            have HB1 := Lib.hid hB1
            have cw := Lib.hid (wordOfRow_no s wr hgood (HE.out.below2 hbel))
            clear hs hgood hbel hB1 hC1 hno
            go_wp2_with fail
            refine cw.out.mono ?_
            rintro e w1 ⟨T, x, rfl, hb1⟩
            have f1 := (hb1.block (w.heap.size + 1) (by omega)).trans HB1.out
            have F1 := Lib.hid f1
            have HB2 := Lib.hid (HBl.out.trans (hb1.mono HBl.out.size))
            clear hb1 f1
            go_wp2_with (refine wpList_store_row rfl 63 _ _ rfl (w.heap.size + 1) zeros rfl rfl 63 zeros F1.out infoM rfl (mcells_one _ _ _) ?_)
            exact bodyPost_ret (results_cell_tmp rfl _ _ (w.heap.size + 1) 63 zeros (0, 0) _ rfl (setRow_heap _ _ _ _ _ _ F1.out) Tryd.underlying63 rfl infoM) rfl ⟨by rw [matC_no HNo.out, HNo.out]; rfl, setRow_below HB2.out (by omega) _⟩
        · obtain rfl : y = n := by omega
          have hyes : validB ss = true := row_size_yes (by rw [HN.out]; omega) (by rw [HN.out]; omega) (fun j hj => by rw [HS0.out]; exact H.out j (by rw [← HN.out]; exact hj))
          have HYes := Lib.hid hyes
          have HBl := Lib.hid hbel
          have HB1 := Lib.hid hB1
          have HC1 := Lib.hid hC1
          have hwo : mat s0.size y (wordsTo ss y) = matC ss := by
            rw [matC_yes hyes, HS0.out, HN.out]
            exact mcells_congr _ _ (fun j _ => by unfold wordsTo wordsOf; rw [HN.out])
          have HWo := Lib.hid hwo
          clear hyes hbel hB1 hC1 hwo
          go_wp2_with (first | (refine wpList_load_row rfl 63 _ rfl (w.heap.size + 1 + 1) rfl 63 (mat s0.size y (wordsTo ss y)) (0, 0) _ HC1.out Tryd.underlying63 rfl infoM ?_) | (refine wpList_store_row rfl 63 _ _ rfl (w.heap.size + 1) (mat s0.size y (wordsTo ss y)) rfl rfl 63 zeros HB1.out infoM rfl (mat_one _ _ _) ?_))
          exact bodyPost_ret (results_cell_tmp rfl _ _ (w.heap.size + 1) 63 (mat s0.size y (wordsTo ss y)) (0, 0) _ rfl (setRow_heap _ _ _ _ _ _ HB1.out) Tryd.underlying63 rfl infoM) rfl ⟨by rw [HWo.out, HYes.out]; rfl, setRow_below HBl.out (by omega) _⟩
end Go.Proofs.YtnmnlbgialolhaaDoor
