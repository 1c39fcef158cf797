/- Contracts of single functions, and plain lemmas, on which the exact laws of this seat rest; each holds under the conditions that it states. -/
import Derived.Test.YtabkkpifkkgpeaaDoorJa
import Derived.Test.YtabkkpifkkgpeaaDoorCc
import Derived.Test.YtabkkpifkkgpeaaDoorRc
import Derived.Deep.DeepCutAuto
import Derived.Deep.QuietTactic
import Derived.BigQuiet
namespace Go.Proofs.YtabkkpifkkgpeaaDoor
set_option linter.unusedVariables false
set_option linter.unusedSimpArgs false
open Go.RowKit

/-! ### planes: twenty-six cells: the width, the height, twenty-four words -/
def pcells (a b : Int) (f : Nat → Int) : Array Value := #[.int .i64 a, .int .i64 b, .int .u32 (f 0), .int .u32 (f 1), .int .u32 (f 2), .int .u32 (f 3), .int .u32 (f 4), .int .u32 (f 5), .int .u32 (f 6), .int .u32 (f 7), .int .u32 (f 8), .int .u32 (f 9), .int .u32 (f 10), .int .u32 (f 11), .int .u32 (f 12), .int .u32 (f 13), .int .u32 (f 14), .int .u32 (f 15), .int .u32 (f 16), .int .u32 (f 17), .int .u32 (f 18), .int .u32 (f 19), .int .u32 (f 20), .int .u32 (f 21), .int .u32 (f 22), .int .u32 (f 23)]
theorem pcells_size (a b : Int) (f : Nat → Int) : (pcells a b f).size = 26 := rfl
theorem pcells_one (a b : Int) (f : Nat → Int) : (pcells a b f).all (·.oneCell') = true := by simp [pcells, Value.oneCell']
theorem pcells_word (a b : Int) (f : Nat → Int) (j : Nat) (h : j < 24) : (pcells a b f)[2 + j]? = some (.int .u32 (f j)) := by
  have : j = 0 ∨ j = 1 ∨ j = 2 ∨ j = 3 ∨ j = 4 ∨ j = 5 ∨ j = 6 ∨ j = 7 ∨ j = 8 ∨ j = 9 ∨ j = 10 ∨ j = 11 ∨ j = 12 ∨ j = 13 ∨ j = 14 ∨ j = 15 ∨ j = 16 ∨ j = 17 ∨ j = 18 ∨ j = 19 ∨ j = 20 ∨ j = 21 ∨ j = 22 ∨ j = 23 := by omega
  rcases this with rfl | rfl | rfl | rfl | rfl | rfl | rfl | rfl | rfl | rfl | rfl | rfl | rfl | rfl | rfl | rfl | rfl | rfl | rfl | rfl | rfl | rfl | rfl | rfl <;> rfl
theorem pcells_set (a b : Int) (f : Nat → Int) (j : Nat) (h : j < 24) (x : Int) : (pcells a b f).setIfInBounds (2 + j) (.int .u32 x) = pcells a b (fun i => if i = j then x else f i) := by
  have : j = 0 ∨ j = 1 ∨ j = 2 ∨ j = 3 ∨ j = 4 ∨ j = 5 ∨ j = 6 ∨ j = 7 ∨ j = 8 ∨ j = 9 ∨ j = 10 ∨ j = 11 ∨ j = 12 ∨ j = 13 ∨ j = 14 ∨ j = 15 ∨ j = 16 ∨ j = 17 ∨ j = 18 ∨ j = 19 ∨ j = 20 ∨ j = 21 ∨ j = 22 ∨ j = 23 := by omega
  rcases this with rfl | rfl | rfl | rfl | rfl | rfl | rfl | rfl | rfl | rfl | rfl | rfl | rfl | rfl | rfl | rfl | rfl | rfl | rfl | rfl | rfl | rfl | rfl | rfl <;> rfl
theorem pcells_congr (a b : Int) {f g : Nat → Int} (h : ∀ j, j < 24 → f j = g j) : pcells a b f = pcells a b g := by
  unfold pcells
  rw [h 0 (by omega), h 1 (by omega), h 2 (by omega), h 3 (by omega), h 4 (by omega), h 5 (by omega), h 6 (by omega), h 7 (by omega), h 8 (by omega), h 9 (by omega), h 10 (by omega), h 11 (by omega), h 12 (by omega), h 13 (by omega), h 14 (by omega), h 15 (by omega), h 16 (by omega), h 17 (by omega), h 18 (by omega), h 19 (by omega), h 20 (by omega), h 21 (by omega), h 22 (by omega), h 23 (by omega)]
/-- the plane of words -/
def pl (a b : Nat) (g : Nat → Nat) : Array Value := pcells a b (fun j => (g j : Int))
theorem pl_size (a b : Nat) (g : Nat → Nat) : (pl a b g).size = 26 := rfl
theorem pl_one (a b : Nat) (g : Nat → Nat) : (pl a b g).all (·.oneCell') = true := pcells_one _ _ _
theorem pl_word (a b : Nat) (g : Nat → Nat) (j : Nat) (h : j < 24) : (pl a b g)[2 + j]? = some (.int .u32 (g j)) := pcells_word _ _ _ j h
theorem pl_congr (a b : Nat) {f g : Nat → Nat} (h : ∀ j, j < 24 → f j = g j) : pl a b f = pl a b g := pcells_congr _ _ (fun j hj => by rw [h j hj])
theorem pl_put (a b : Nat) (g : Nat → Nat) (q : Nat) (hq : q < 24) (x : Nat) : (pl a b g).setIfInBounds (2 + q) (.int .u32 x) = pl a b (fun j => if j = q then x else g j) := by
  unfold pl
  rw [pcells_set _ _ _ q hq]
  congr 1
  funext j
  show _ = ((if j = q then x else g j : Nat) : Int)
  split <;> rfl
theorem infoPl : (Tryd.prog.info? 113).map (·.size) = some 26 := by kernel_rfl
def zerosP : Array Value := pcells 0 0 (fun _ => 0)
/-- a plane's words fit -/
def PlW (g : Nat → Nat) : Prop := ∀ j, g j < 16777216
def jnW (k : Nat) (W V : Nat) : Nat := if k = 0 then jW0 W V else if k = 1 then jW1 W V else if k = 2 then jW2 W V else jW3 W V
def jnF (k : Nat) (p q : Bool) : Bool := if k = 0 then jF0 p q else if k = 1 then jF1 p q else if k = 2 then jF2 p q else jF3 p q
theorem jn_bit (k W V x : Nat) (hV : V < 4294967296) (hx : x < 32) : (jnW k W V).testBit x = jnF k (W.testBit x) (V.testBit x) := by
  unfold jnW jnF
  split
  · exact jB0 W V x hV hx
  · split
    · exact jB1 W V x hV hx
    · split
      · exact jB2 W V x hV hx
      · exact jB3 W V x hV hx
theorem jn_lt (k W V : Nat) (hW : W < 16777216) (hV : V < 16777216) : jnW k W V < 16777216 := by
  unfold jnW jW0 jW1 jW2 jW3
  split
  · exact Nat.lt_of_le_of_lt Nat.and_le_left hW
  · split
    · exact Nat.or_lt_two_pow (n := 24) hW hV
    · split
      · exact Nat.xor_lt_two_pow (n := 24) hW hV
      · exact Nat.lt_of_le_of_lt Nat.and_le_left hW
theorem join_any (k W V : Nat) (w : World) (hk : k < 4) (hW : W < 16777216) (hV : V < 16777216) : Calls Tryd.prog 85 #[.int .i64 k, .int .u32 W, .int .u32 V] w fun e w' => e = .returned (.int .u32 (jnW k W V)) ∧ w = w' := by
  rcases (by omega : k = 0 ∨ k = 1 ∨ k = 2 ∨ k = 3) with rfl | rfl | rfl | rfl
  · exact join_0 W V w (by omega) (by omega)
  · exact join_1 W V w (by omega) (by omega)
  · exact join_2 W V w (by omega) (by omega)
  · exact join_3 W V w (by omega) (by omega)

section
variable {P : Program} {ops : Array Oper} {rest : List Oper} {o : Oper} {a : Act} {w : World} {Q : Exit → Act → World → Prop}
/-- a struct is built, as is known beforehand -/
theorem wpList_build_as (hg : o.guard = none) (t : TypeId) (parts : Array (Nat × Operand)) (ho : o.op = .build t parts) (vals : List (Nat × Value)) (cells : Array Value)
    (hv : parts.toList.map (fun (i, x) => (i, a.eval x)) = vals) (hb : P.built t vals = some cells) (h : wpList P ops Q rest (a.put o.dst (.agg cells)) w) : wpList P ops Q (o :: rest) a w :=
  wpList_build hg t parts ho (by rw [Array.toList_map, hv, hb]; rfl) (by rw [Array.toList_map, hv, hb]; exact h)
end
theorem built_pl (a b : Int) : Tryd.prog.built 113 [(0, .int .i64 a), (1, .int .i64 b)] = some (pcells a b (fun _ => 0)) := by kernel_rfl

/-! ### the plane of a matrix -/
def plOf (g : Nat → Nat) (Y j : Nat) : Nat := if 4 ≤ j ∧ j < 4 + Y then g (j - 4) * 16 else 0
theorem plOf_zero (g : Nat → Nat) (a b : Nat) : pl a b (plOf g 0) = pcells a b (fun _ => 0) := by
  unfold pl
  refine pcells_congr _ _ (fun j _ => ?_)
  unfold plOf
  rw [if_neg (by omega)]
  rfl
theorem plOf_step (g : Nat → Nat) (a b y : Nat) (hy : y < 16) : (pl a b (plOf g y)).setIfInBounds (2 + (y + 4)) (.int .u32 ((g y * 16 : Nat) : Int)) = pl a b (plOf g (y + 1)) := by
  rw [pl_put a b _ (y + 4) (by omega)]
  refine pl_congr a b (fun j hj => ?_)
  unfold plOf
  by_cases h : j = y + 4
  · subst h
    rw [if_pos rfl, if_pos (by omega)]
    congr 2
  · rw [if_neg h]
    by_cases h2 : 4 ≤ j ∧ j < 4 + y
    · rw [if_pos h2, if_pos (by omega)]
    · rw [if_neg h2, if_neg (by omega)]

set_option maxHeartbeats 4000000 in
set_option maxRecDepth 100000 in
theorem planeOf_any (a b : Nat) (g : Nat → Nat) (w : World) (ha : a ≤ 16) (hb : b ≤ 16) (hg : ∀ j, g j < 65536) :
    Calls Tryd.prog 136 #[.agg (mat a b g)] w fun e w' => e = .returned (.agg (pl a b (plOf g b))) ∧ Below w.heap.size w w' := by
  obtain ⟨P2, hP2⟩ : ∃ P2, pl a b (plOf g b) = P2 := ⟨_, rfl⟩
  have HP2 := Lib.hid hP2
  have hsz2 : P2.size = 26 := by rw [← hP2]; rfl
  have HI4 : Hid ((Tryd.prog.info? 113).map (·.size) = some P2.size) := by show _ = _; rw [hsz2]; exact infoPl
  have HI5 : Hid (zerosP.size = P2.size) := by show _ = _; rw [hsz2]; rfl
  have HI6 : Hid (P2.all (·.oneCell') = true) := by show _ = _; rw [← hP2]; exact pl_one _ _ _
  rw [hP2]
  clear hP2 hsz2
  obtain ⟨M, hM⟩ : ∃ M, mat a b g = M := ⟨_, rfl⟩
  have hsz : M.size = 18 := by rw [← hM]; rfl
  have hone : M.all (·.oneCell') = true := by rw [← hM]; exact mat_one _ _ _
  have HI : Hid ((Tryd.prog.info? 96).map (·.size) = some M.size) := by show _ = _; rw [hsz]; exact infoM
  have HMM := Lib.hid hM
  rw [hM]
  have hm2 : (((w.alloc (.cells M 96)).alloc (.cells zerosP 113)).alloc (.cells (pcells a b (fun _ => 0)) 113)).heap[w.heap.size]? = some (.cells M 96 (0, 0)) := by
    rw [Below.heap_alloc _ _ _ (by simp; omega), Below.heap_alloc _ _ _ (by simp)]; exact heap_alloc_last w _
  have hr2 : (((w.alloc (.cells M 96)).alloc (.cells zerosP 113)).alloc (.cells (pcells a b (fun _ => 0)) 113)).heap[w.heap.size + 1]? = some (.cells zerosP 113 (0, 0)) := by
    rw [Below.heap_alloc _ _ _ (by simp)]
    exact heap_alloc2_new _ _ _
  have hs2 : (((w.alloc (.cells M 96)).alloc (.cells zerosP 113)).alloc (.cells (pcells a b (fun _ => 0)) 113)).heap[w.heap.size + 1 + 1]? = some (.cells (pcells a b (fun _ => 0)) 113 (0, 0)) := by
    have := heap_alloc_last ((w.alloc (.cells M 96)).alloc (.cells zerosP 113)) (.cells (pcells a b (fun _ => 0)) 113)
    simpa only [World.size_alloc] using this
  obtain ⟨W0, hW0⟩ : ∃ W0, (w.alloc (.cells M 96)).alloc (.cells #[.int .i64 0, .int .i64 0, .int .u32 0, .int .u32 0, .int .u32 0, .int .u32 0, .int .u32 0, .int .u32 0, .int .u32 0, .int .u32 0, .int .u32 0, .int .u32 0, .int .u32 0, .int .u32 0, .int .u32 0, .int .u32 0, .int .u32 0, .int .u32 0, .int .u32 0, .int .u32 0, .int .u32 0, .int .u32 0, .int .u32 0, .int .u32 0, .int .u32 0, .int .u32 0] 113) = W0 := ⟨_, rfl⟩
  have hz : zerosP = #[.int .i64 0, .int .i64 0, .int .u32 0, .int .u32 0, .int .u32 0, .int .u32 0, .int .u32 0, .int .u32 0, .int .u32 0, .int .u32 0, .int .u32 0, .int .u32 0, .int .u32 0, .int .u32 0, .int .u32 0, .int .u32 0, .int .u32 0, .int .u32 0, .int .u32 0, .int .u32 0, .int .u32 0, .int .u32 0, .int .u32 0, .int .u32 0, .int .u32 0, .int .u32 0] := rfl
  rw [hz, hW0] at hm2 hr2 hs2
  have hw0 : W0.heap.size = w.heap.size + 1 + 1 := by rw [← hW0]; simp
  have hb0 : Below w.heap.size w W0 := by rw [← hW0]; exact Joins.below_alloc2 _ _ _
  have hq0 : W0.heap[w.heap.size]? = some (.cells M 96 (0, 0)) := by
    rw [← hW0, Below.heap_alloc _ _ _ (by simp)]; exact heap_alloc_last w _
  have c0 : W0.cell? ⟨w.heap.size, 0, none⟩ = some (.int .i64 a) := by
    rw [Joins.cell_of_block hq0 0, ← hM]; rfl
  have c1 : W0.cell? ⟨w.heap.size, 1, none⟩ = some (.int .i64 b) := by
    rw [Joins.cell_of_block hq0 1, ← hM]; rfl
  have HW0 := Lib.hid hW0
  have HI1 : Hid ((Tryd.prog.info? 113).map (·.size) = some (pcells a b (fun _ => 0)).size) := infoPl
  have HI2 : Hid (zerosP.size = (pcells a b (fun _ => 0)).size) := rfl
  have HI3 : Hid ((pcells a b (fun _ => 0)).all (·.oneCell') = true) := pcells_one a b (fun _ => 0)
  have HBl := Lib.hid (built_pl a b)
  have hPz : zerosP = pcells 0 0 (fun _ => 0) := rfl
  obtain ⟨C0, hC0⟩ : ∃ C, pcells a b (fun _ => 0) = C := ⟨_, rfl⟩
  have HC0 := Lib.hid hC0
  rw [hC0] at HI1 HI2 HI3 HBl hs2 hr2 hm2
  have HM2 := Lib.hid hm2
  have c2 : (W0.alloc (.cells C0 113)).cell? ⟨w.heap.size, 1, none⟩ = some (.int .i64 b) := by rw [Joins.cell_of_block hm2 1, ← hM]; rfl
  have HR2 := Lib.hid hr2
  have HB2 := Lib.hid (hb0.alloc hb0.size (.cells C0 113))
  have l0 : w.heap.size + 1 < W0.heap.size := by omega
  rw [← hw0] at hs2
  have HS2 := Lib.hid hs2
  clear hM hsz hone hm2 hr2 hs2 hW0 hz hq0 hb0 hC0 hPz hw0
  go_enter Tryd.func136, Tryd.ntmps136
  go_upto_region 1 with fail
  rw [HW0.out]
  go_wp2_with (first | (refine wpList_build_as rfl 113 _ rfl [(0, .int .i64 a), (1, .int .i64 b)] C0 rfl HBl.out ?_) | (refine wpList_store_new W0 rfl 113 _ _ rfl C0 rfl rfl 113 zerosP HI1.out HI2.out HI3.out ?_))
  obtain ⟨m0, hm0⟩ : ∃ m0, W0.heap.size = m0 := ⟨_, rfl⟩
  obtain ⟨W1, hW1⟩ : ∃ W1, W0.alloc (.cells C0 113) = W1 := ⟨_, rfl⟩
  rw [hm0] at HS2 l0 ⊢
  rw [hW1] at HS2 HR2 HM2 HB2 ⊢
  clear hm0 hW1 c0 c1 c2
  go_loopw [12] (fun yv wr => ∃ y : Nat, y ≤ b ∧ yv = .int .i64 y ∧ wr.heap[w.heap.size]? = some (.cells M 96 (0, 0)) ∧ wr.heap[w.heap.size + 1]? = some (.cells zerosP 113 (0, 0)) ∧ wr.heap[m0]? = some (.cells (pl a b (plOf g y)) 113 (0, 0)) ∧ Below w.heap.size w wr) (fun yv _ => b - (intOf yv).toNat)
  case atStart => exact ⟨0, Nat.zero_le _, rfl, HM2.out, HR2.out, by rw [plOf_zero, HC0.out]; exact HS2.out, HB2.out⟩
  case round =>
    obtain ⟨y, hy, rfl, hm, hr, hsh, hbel⟩ := hrel
    have M3 := Lib.hid hm
    have R3 := Lib.hid hr
    have S3 := Lib.hid hsh
    have B3 := Lib.hid hbel
    have l3 : m0 < wr.heap.size := (Array.getElem?_eq_some_iff.1 hsh).1
    clear hr hbel
    by_cases hlt : y < b
    · have kyb : (y : Int) < (b : Int) := by omega
      have ky16 : (y : Int) < 16 := by omega
      have ky4 : (y : Int) + 4 < 24 := by omega
      have hgy := hg y
      have cq : wr.cell? ⟨w.heap.size, 2 + y, none⟩ = some (.int .u32 (g y)) := by
        rw [Joins.cell_of_block hm (2 + y), ← HMM.out]; exact mcells_word _ _ _ y (by omega)
      have fz : wr.frozen? ⟨m0, 2 + (y + 4), none⟩ = false := Joins.unfrozen_of_block hsh _
      have cy : wr.cell? ⟨m0, 2 + (y + 4), none⟩ = some (.int .u32 (plOf g y (y + 4))) := by
        rw [Joins.cell_of_block hsh (2 + (y + 4))]; exact pl_word _ _ _ (y + 4) (by omega)
      have HX := Lib.hid (Lib.heap_setCell_same (i := 2 + (y + 4)) S3.out (.int .u32 ((g y * 16 : Nat) : Int)))
      rw [plOf_step g a b y (by omega)] at HX
      obtain ⟨G, hG⟩ : ∃ G, g y = G := ⟨_, rfl⟩
      rw [hG] at cq HX hgy
      clear hm hsh hG
      go_wp2
      refine ⟨⟨y + 1, by omega, by go_num, ?_, ?_, ?_, ?_⟩, by simp [intOf]; omega⟩
      · exact (Below.heap_setCell _ _ _ _ (by simp; omega)).trans M3.out
      · exact (Below.heap_setCell _ _ _ _ (by simp; omega)).trans R3.out
      · exact HX.out
      · exact B3.out.setCell (by simp; omega) _
    · obtain rfl : y = b := by omega
      rw [HP2.out] at S3
      clear hm hsh
      go_wp2_with (first | (refine wpList_load_row rfl 113 _ rfl m0 rfl 113 P2 (0, 0) _ S3.out Tryd.underlying113 rfl HI4.out ?_) | (refine wpList_store_row rfl 113 _ _ rfl (w.heap.size + 1) P2 rfl rfl 113 zerosP R3.out HI4.out HI5.out HI6.out ?_))
      exact bodyPost_ret (results_cell1 (p := 2) (ty := 113) Tryd.results136 _ _ (w.heap.size + 1) 113 P2 (0, 0) _ rfl (setRow_heap _ _ _ _ _ _ R3.out) Tryd.underlying113 rfl HI4.out) rfl ⟨rfl, setRow_below B3.out (by omega) _⟩
end Go.Proofs.YtabkkpifkkgpeaaDoor

/- Contracts of single functions, and plain lemmas, on which the exact laws of this seat rest; each holds under the conditions that it states. -/
namespace Go.Proofs.YtabkkpifkkgpeaaDoor
set_option linter.unusedVariables false
set_option linter.unusedSimpArgs false
open Go.RowKit

/-- the words of a plane as an array -/
def rowsP (g : Nat → Nat) : List Value := (List.range 24).map fun j => Value.int .u32 (g j)
theorem rowsP_len (g : Nat → Nat) : (rowsP g).length = 24 := by simp [rowsP]
theorem rowsP_at (g : Nat → Nat) (j : Nat) (h : j < 24) : (rowsP g).toArray[j]? = some (.int .u32 (g j)) := by simp [rowsP, h]
theorem rowsP_range {W : World} {t a b : Nat} {g : Nat → Nat} (h : W.heap[t]? = some (.cells (pl a b g) 113 (0, 0))) : W.rangeAt t 2 (rowsP g) := fun j v hv => by
  have hj : j < 24 := by
    have := (List.getElem?_eq_some_iff.1 hv).1
    rwa [rowsP_len] at this
  rw [Joins.cell_of_block h (2 + j)]
  have h1 := pl_word a b g j hj
  have h2 : (rowsP g)[j]? = some (.int .u32 (g j)) := by simp [rowsP, hj]
  rw [h2] at hv
  obtain rfl := Option.some.inj hv
  exact h1
theorem infoRowsP : (Tryd.prog.info? 111).map (·.size) = some 24 := by kernel_rfl
theorem run_index_rowsP (cs : Array Value) (i : Nat) (v : Value) (w : World) (hi : i < 24) (hv : cs[i]? = some v) : (Instr.index 111 (.agg cs) (.int .i64 i)).run Tryd.prog w = .ok v w := by
  have h : Tryd.prog.underlying 111 = some (.array 24 93) := Tryd.underlying111
  have h1 : ∀ w, (sizeOf 93).run Tryd.prog w = .ok 1 w := fun _ => by kernel_rfl
  have h2 : ∀ w, (isAgg 93).run Tryd.prog w = .ok false w := fun _ => by kernel_rfl
  have hn : (0 : Int) ≤ (i : Int) ∧ (i : Int) < ((24 : Nat) : Int) := by omega
  simp [Instr.index, run_underlying h, asIntOf, hn, go_sem, hv, h1, h2, hi]
theorem mask24_any (w : World) : Calls Tryd.prog 101 #[.int .i64 24] w fun e w' => e = .returned (.int .u32 16777215) ∧ w = w' := by
  go_enter Tryd.func101, Tryd.ntmps101
  go_wp2
  go_ret
  exact ⟨rfl, rfl⟩

/-! ### a plane moved -/
theorem shW_lt24 (W : Nat) (dx : Int) : shW W dx 24 < 16777216 := by
  unfold shW
  exact Nat.lt_of_le_of_lt Nat.and_le_right (by decide)
theorem shW_eq24 (W : Nat) (dx : Int) (hW : W < 16777216) :
    bits .and .u32 ((W : Int) * (2 : Int) ^ (max dx 0).toNat % 4294967296 / (2 : Int) ^ (max (-dx) 0).toNat) 16777215 = ((shW W dx 24 : Nat) : Int) := by
  unfold shW
  by_cases hd : 0 ≤ dx
  · rw [if_pos hd, show (max dx 0) = dx from by omega, show (max (-dx) 0) = 0 from by omega]
    have e1 : (W : Int) * (2 : Int) ^ dx.toNat % 4294967296 / (2 : Int) ^ (0 : Int).toNat = ((W * 2 ^ dx.toNat % 4294967296 : Nat) : Int) := by
      rw [show (2 : Int) ^ (0 : Int).toNat = 1 from rfl, Int.ediv_one, Int.natCast_emod, Int.natCast_mul, Int.natCast_pow]; rfl
    rw [e1]
    exact u32_and_nat _ 16777215 (Nat.mod_lt _ (by omega)) (by omega)
  · rw [if_neg hd, show (max dx 0) = 0 from by omega, show (max (-dx) 0) = -dx from by omega]
    have e1 : (W : Int) * (2 : Int) ^ (0 : Int).toNat % 4294967296 / (2 : Int) ^ (-dx).toNat = ((W / 2 ^ (-dx).toNat : Nat) : Int) := by
      rw [show (2 : Int) ^ (0 : Int).toNat = 1 from rfl, Int.mul_one, Int.emod_eq_of_lt (by omega) (by omega), Int.natCast_ediv, Int.natCast_pow]; rfl
    rw [e1]
    exact u32_and_nat _ 16777215 (Nat.lt_of_le_of_lt (Nat.div_le_self _ _) (by omega)) (by omega)
def mvG (g : Nat → Nat) (dx dy : Int) (Y j : Nat) : Nat := if 0 ≤ (j : Int) - dy ∧ (j : Int) - dy < (Y : Int) then shW (g ((j : Int) - dy).toNat) dx 24 else 0
theorem mvG_zero (g : Nat → Nat) (a b : Nat) (dx dy : Int) : pl a b (mvG g dx dy 0) = pcells a b (fun _ => 0) := by
  unfold pl
  refine pcells_congr _ _ (fun j _ => ?_)
  unfold mvG
  rw [if_neg (by omega)]
  rfl
theorem mvG_skip (g : Nat → Nat) (a b : Nat) (dx dy : Int) (y : Nat) (h : ¬ (0 ≤ (y : Int) + dy ∧ (y : Int) + dy < 24)) : pl a b (mvG g dx dy y) = pl a b (mvG g dx dy (y + 1)) := by
  refine pl_congr a b (fun j hj => ?_)
  unfold mvG
  by_cases h2 : 0 ≤ (j : Int) - dy ∧ (j : Int) - dy < (y : Int)
  · rw [if_pos h2, if_pos (by omega)]
  · rw [if_neg h2, if_neg (by omega)]
theorem mvG_step (g : Nat → Nat) (a b : Nat) (dx dy : Int) (y q : Nat) (hq : (y : Int) + dy = q) (hq2 : q < 24) : (pl a b (mvG g dx dy y)).setIfInBounds (2 + q) (.int .u32 ((shW (g y) dx 24 : Nat) : Int)) = pl a b (mvG g dx dy (y + 1)) := by
  rw [pl_put a b _ q hq2]
  refine pl_congr a b (fun j hj => ?_)
  unfold mvG
  by_cases h : j = q
  · subst h
    rw [if_pos rfl, if_pos (by omega)]
    rw [show ((j : Int) - dy).toNat = y from by omega]
  · rw [if_neg h]
    by_cases h2 : 0 ≤ (j : Int) - dy ∧ (j : Int) - dy < (y : Int)
    · rw [if_pos h2, if_pos (by omega)]
    · rw [if_neg h2, if_neg (by omega)]

set_option maxHeartbeats 4000000 in
set_option maxRecDepth 100000 in
theorem moved_any (a b : Nat) (g : Nat → Nat) (dx dy : Int) (w : World) (hg : PlW g) (hx : -4 ≤ dx ∧ dx ≤ 4) (hy : -4 ≤ dy ∧ dy ≤ 4) :
    Calls Tryd.prog 157 #[.agg (pl a b g), .agg #[.int .i64 dx, .int .i64 dy]] w fun e w' => e = .returned (.agg (pl a b (mvG g dx dy 24))) ∧ Below w.heap.size w w' := by
  obtain ⟨P2, hP2⟩ : ∃ P2, pl a b (mvG g dx dy 24) = P2 := ⟨_, rfl⟩
  have HP2 := Lib.hid hP2
  have hsz2 : P2.size = 26 := by rw [← hP2]; rfl
  have HI4 : Hid ((Tryd.prog.info? 113).map (·.size) = some P2.size) := by show _ = _; rw [hsz2]; exact infoPl
  have HI5 : Hid (zerosP.size = P2.size) := by show _ = _; rw [hsz2]; rfl
  have HI6 : Hid (P2.all (·.oneCell') = true) := by show _ = _; rw [← hP2]; exact pl_one _ _ _
  rw [hP2]
  clear hP2 hsz2
  obtain ⟨M, hM⟩ : ∃ M, pl a b g = M := ⟨_, rfl⟩
  have hsz : M.size = 26 := by rw [← hM]; rfl
  have HI : Hid ((Tryd.prog.info? 113).map (·.size) = some M.size) := by show _ = _; rw [hsz]; exact infoPl
  rw [hM]
  obtain ⟨W0, hW0⟩ : ∃ W0, ((w.alloc (.cells M 113)).alloc (.cells #[.int .i64 dx, .int .i64 dy] 29)).alloc (.cells #[.int .i64 0, .int .i64 0, .int .u32 0, .int .u32 0, .int .u32 0, .int .u32 0, .int .u32 0, .int .u32 0, .int .u32 0, .int .u32 0, .int .u32 0, .int .u32 0, .int .u32 0, .int .u32 0, .int .u32 0, .int .u32 0, .int .u32 0, .int .u32 0, .int .u32 0, .int .u32 0, .int .u32 0, .int .u32 0, .int .u32 0, .int .u32 0, .int .u32 0, .int .u32 0] 113) = W0 := ⟨_, rfl⟩
  have hz : zerosP = #[.int .i64 0, .int .i64 0, .int .u32 0, .int .u32 0, .int .u32 0, .int .u32 0, .int .u32 0, .int .u32 0, .int .u32 0, .int .u32 0, .int .u32 0, .int .u32 0, .int .u32 0, .int .u32 0, .int .u32 0, .int .u32 0, .int .u32 0, .int .u32 0, .int .u32 0, .int .u32 0, .int .u32 0, .int .u32 0, .int .u32 0, .int .u32 0, .int .u32 0, .int .u32 0] := rfl
  have hw0 : W0.heap.size = w.heap.size + 1 + 1 + 1 := by rw [← hW0]; simp
  have hb0 : Below w.heap.size w W0 := by rw [← hW0]; exact Joins.below_alloc3 _ _ _ _
  have hq0 : W0.heap[w.heap.size]? = some (.cells M 113 (0, 0)) := by
    rw [← hW0, Below.heap_alloc _ _ _ (by simp; omega), Below.heap_alloc _ _ _ (by simp)]; exact heap_alloc_last w _
  have hd0 : W0.heap[w.heap.size + 1]? = some (.cells #[.int .i64 dx, .int .i64 dy] 29 (0, 0)) := by
    rw [← hW0, Below.heap_alloc _ _ _ (by simp)]
    exact heap_alloc2_new _ _ _
  have hr0 : W0.heap[w.heap.size + 1 + 1]? = some (.cells zerosP 113 (0, 0)) := by
    rw [← hW0, hz]
    have := heap_alloc_last ((w.alloc (.cells M 113)).alloc (.cells #[.int .i64 dx, .int .i64 dy] 29)) (.cells #[.int .i64 0, .int .i64 0, .int .u32 0, .int .u32 0, .int .u32 0, .int .u32 0, .int .u32 0, .int .u32 0, .int .u32 0, .int .u32 0, .int .u32 0, .int .u32 0, .int .u32 0, .int .u32 0, .int .u32 0, .int .u32 0, .int .u32 0, .int .u32 0, .int .u32 0, .int .u32 0, .int .u32 0, .int .u32 0, .int .u32 0, .int .u32 0, .int .u32 0, .int .u32 0] 113)
    simpa only [World.size_alloc] using this
  have c0 : W0.cell? ⟨w.heap.size, 0, none⟩ = some (.int .i64 a) := by
    rw [Joins.cell_of_block hq0 0, ← hM]; rfl
  have c1 : W0.cell? ⟨w.heap.size, 1, none⟩ = some (.int .i64 b) := by
    rw [Joins.cell_of_block hq0 1, ← hM]; rfl
  have HW0 := Lib.hid hW0
  have HI1 : Hid ((Tryd.prog.info? 113).map (·.size) = some (pcells a b (fun _ => 0)).size) := infoPl
  have HI2 : Hid (zerosP.size = (pcells a b (fun _ => 0)).size) := rfl
  have HI3 : Hid ((pcells a b (fun _ => 0)).all (·.oneCell') = true) := pcells_one a b (fun _ => 0)
  have HBl := Lib.hid (built_pl a b)
  obtain ⟨C0, hC0⟩ : ∃ C, pcells a b (fun _ => 0) = C := ⟨_, rfl⟩
  have HC0 := Lib.hid hC0
  rw [hC0] at HI1 HI2 HI3 HBl
  have hbA := Joins.below_alloc1 W0 (.cells C0 113)
  have HM2 := Lib.hid ((hbA.block _ (Array.getElem?_eq_some_iff.1 hq0).1).trans hq0)
  have HD2 := Lib.hid ((hbA.block _ (Array.getElem?_eq_some_iff.1 hd0).1).trans hd0)
  have HR2 := Lib.hid ((hbA.block _ (Array.getElem?_eq_some_iff.1 hr0).1).trans hr0)
  have HS2 : Hid ((W0.alloc (.cells C0 113)).heap[W0.heap.size]? = some (.cells C0 113 (0, 0))) := heap_alloc_last W0 _
  have HB2 := Lib.hid (hb0.alloc hb0.size (.cells C0 113))
  have l0 : w.heap.size + 1 + 1 < W0.heap.size := by omega
  have hra : (W0.alloc (.cells C0 113)).rangeAt w.heap.size 2 (rowsP g) := by
    have h := HM2.out
    rw [← hM] at h
    exact rowsP_range h
  have HRA := Lib.hid hra
  have HRL := Lib.hid (infoRowsP.trans (congrArg some (rowsP_len g).symm))
  have HRx : Hid (∀ j, j < 24 → (rowsP g).toArray[j]? = some (.int .u32 (g j))) := fun j hj => rowsP_at g j hj
  obtain ⟨R, hR⟩ : ∃ R, rowsP g = R := ⟨_, rfl⟩
  rw [hR] at HRA HRL HRx
  obtain ⟨RA, hRA⟩ : ∃ RA, R.toArray = RA := ⟨_, rfl⟩
  have HRe := Lib.hid hRA
  rw [hRA] at HRx
  have CMk := Lib.hid (fun W => mask24_any W)
  clear hM hsz hW0 hz hq0 hd0 hr0 hb0 hC0 hw0 hbA hra hR hRA
  go_enter Tryd.func157, Tryd.ntmps157
  go_upto_region 1 with fail
  rw [HW0.out]
  go_wp2_with (first | (refine wpList_build_as rfl 113 _ rfl [(0, .int .i64 a), (1, .int .i64 b)] C0 rfl HBl.out ?_) | (refine wpList_store_new W0 rfl 113 _ _ rfl C0 rfl rfl 113 zerosP HI1.out HI2.out HI3.out ?_) | (refine wpList_load_mid rfl 111 _ rfl w.heap.size 2 rfl R _ HRA.out Tryd.underlying111 rfl HRL.out ?_; rw [HRe.out]))
  obtain ⟨m0, hm0⟩ : ∃ m0, W0.heap.size = m0 := ⟨_, rfl⟩
  obtain ⟨W1, hW1⟩ : ∃ W1, W0.alloc (.cells C0 113) = W1 := ⟨_, rfl⟩
  rw [hm0] at HS2 l0 ⊢
  rw [hW1] at HS2 HR2 HD2 HM2 HB2 ⊢
  clear hm0 hW1 c0 c1 HM2 HRA
  go_loopw [16] (fun yv wr => ∃ y : Nat, y ≤ 24 ∧ yv = .int .i64 y ∧ wr.heap[w.heap.size + 1]? = some (.cells #[.int .i64 dx, .int .i64 dy] 29 (0, 0)) ∧ wr.heap[w.heap.size + 1 + 1]? = some (.cells zerosP 113 (0, 0)) ∧ wr.heap[m0]? = some (.cells (pl a b (mvG g dx dy y)) 113 (0, 0)) ∧ Below w.heap.size w wr) (fun yv _ => 24 - (intOf yv).toNat)
  case atStart => exact ⟨0, Nat.zero_le _, rfl, HD2.out, HR2.out, by rw [mvG_zero, HC0.out]; exact HS2.out, HB2.out⟩
  case round =>
    obtain ⟨y, hyl, rfl, hdd, hr, hsh, hbel⟩ := hrel
    have D3 := Lib.hid hdd
    have R3 := Lib.hid hr
    have S3 := Lib.hid hsh
    have B3 := Lib.hid hbel
    have l3 : m0 < wr.heap.size := (Array.getElem?_eq_some_iff.1 hsh).1
    clear hr hbel
    by_cases hlt : y < 24
    · have ky : (y : Int) < 24 := by omega
      have hri := HRx.out y hlt
      have hix := fun w => run_index_rowsP RA y _ w hlt hri
      have d0 : wr.cell? ⟨w.heap.size + 1, 0, none⟩ = some (.int .i64 dx) := by rw [Joins.cell_of_block hdd 0]; rfl
      have d1 : wr.cell? ⟨w.heap.size + 1, 1, none⟩ = some (.int .i64 dy) := by rw [Joins.cell_of_block hdd 1]; rfl
      by_cases hin : 0 ≤ (y : Int) + dy ∧ (y : Int) + dy < 24
      · obtain ⟨q, hq⟩ := Int.eq_ofNat_of_zero_le hin.1
        have hq2 : q < 24 := by omega
        have HST := Lib.hid (mvG_step g a b dx dy y q hq hq2)
        have KD := Lib.hid (shW_eq24 (g y) dx (hg y))
        have h0 := hin.1
        have h24 := hin.2
        have fz : wr.frozen? ⟨m0, 2 + q, none⟩ = false := Joins.unfrozen_of_block hsh _
        have cy : wr.cell? ⟨m0, 2 + q, none⟩ = some (.int .u32 (mvG g dx dy y q)) := by
          rw [Joins.cell_of_block hsh (2 + q)]; exact pl_word _ _ _ q hq2
        have HX := Lib.hid (Lib.heap_setCell_same (i := 2 + q) S3.out (.int .u32 ((shW (g y) dx 24 : Nat) : Int)))
        rw [HST.out] at HX
        obtain ⟨G, hG⟩ : ∃ G, g y = G := ⟨_, rfl⟩
        rw [hG] at hri hix HX KD
        clear hsh hG hin hdd
        go_wp2_with fail
        by_cases hdx : 0 ≤ dx
        · go_quiet (fail)
          have hE : (G : Int) * (2 : Int) ^ dx.toNat % 4294967296 / (2 : Int) ^ (if 0 < dx then 0 else -dx).toNat = (G : Int) * (2 : Int) ^ (max dx 0).toNat % 4294967296 / (2 : Int) ^ (max (-dx) 0).toNat := by
            rw [show max dx 0 = dx from by omega, show (if 0 < dx then 0 else -dx) = max (-dx) 0 from by split <;> omega]
          obtain ⟨X, hX⟩ : ∃ X, (G : Int) * (2 : Int) ^ (max dx 0).toNat % 4294967296 / (2 : Int) ^ (max (-dx) 0).toNat = X := ⟨_, rfl⟩
          have KX : bits .and .u32 X 16777215 = ((shW G dx 24 : Nat) : Int) := by rw [← hX]; exact KD.out
          have hE2 := hE.trans hX
          first | rw [hX] | rw [hE2]
          clear hE hE2
          clear hX hdx
          go_wp2_with fail
          refine (CMk.out _).mono ?_
          rintro e w2 ⟨rfl, rfl⟩
          go_wp2
          all_goals exact ⟨⟨y + 1, by omega, by go_num, (Below.heap_setCell _ _ _ _ (by simp; omega)).trans D3.out, (Below.heap_setCell _ _ _ _ (by simp; omega)).trans R3.out, HX.out, (B3.out.trans (Joins.below_draws w.heap.size wr nq)).setCell (p := ⟨m0, 2 + q, none⟩) (by show w.heap.size ≤ m0; omega) _⟩, by simp [intOf]; omega⟩
        · go_quiet (fail)
          have hE : (G : Int) % 4294967296 / (2 : Int) ^ (if 0 < dx then 0 else -dx).toNat = (G : Int) * (2 : Int) ^ (max dx 0).toNat % 4294967296 / (2 : Int) ^ (max (-dx) 0).toNat := by
            rw [show max dx 0 = 0 from by omega, show (if 0 < dx then 0 else -dx) = max (-dx) 0 from by split <;> omega, show (2 : Int) ^ (0 : Int).toNat = 1 from rfl, Int.mul_one]
          obtain ⟨X, hX⟩ : ∃ X, (G : Int) * (2 : Int) ^ (max dx 0).toNat % 4294967296 / (2 : Int) ^ (max (-dx) 0).toNat = X := ⟨_, rfl⟩
          have KX : bits .and .u32 X 16777215 = ((shW G dx 24 : Nat) : Int) := by rw [← hX]; exact KD.out
          have hE2 := hE.trans hX
          first | rw [hX] | rw [hE2]
          clear hE hE2
          clear hX hdx
          go_wp2_with fail
          refine (CMk.out _).mono ?_
          rintro e w2 ⟨rfl, rfl⟩
          go_wp2
          all_goals exact ⟨⟨y + 1, by omega, by go_num, (Below.heap_setCell _ _ _ _ (by simp; omega)).trans D3.out, (Below.heap_setCell _ _ _ _ (by simp; omega)).trans R3.out, HX.out, (B3.out.trans (Joins.below_draws w.heap.size wr nq)).setCell (p := ⟨m0, 2 + q, none⟩) (by show w.heap.size ≤ m0; omega) _⟩, by simp [intOf]; omega⟩
      · have HST := Lib.hid (mvG_skip g a b dx dy y hin)
        obtain ⟨G, hG⟩ : ∃ G, g y = G := ⟨_, rfl⟩
        rw [hG] at hri hix
        rw [HST.out] at S3
        clear hsh hG hdd
        by_cases h0 : 0 ≤ (y : Int) + dy
        · have h24 : ¬ (y : Int) + dy < 24 := fun h => hin ⟨h0, h⟩
          clear hin
          go_wp2
          go_roundw
          case rel => exact ⟨y + 1, by omega, by go_num, D3.out, R3.out, S3.out, B3.out⟩
          case measure => simp [intOf]; omega
        · clear hin
          go_wp2
          go_roundw
          case rel => exact ⟨y + 1, by omega, by go_num, D3.out, R3.out, S3.out, B3.out⟩
          case measure => simp [intOf]; omega
    · obtain rfl : y = 24 := by omega
      rw [HP2.out] at S3
      clear hsh hdd
      go_wp2_with (first | (refine wpList_load_row rfl 113 _ rfl m0 rfl 113 P2 (0, 0) _ S3.out Tryd.underlying113 rfl HI4.out ?_) | (refine wpList_store_row rfl 113 _ _ rfl (w.heap.size + 1 + 1) P2 rfl rfl 113 zerosP R3.out HI4.out HI5.out HI6.out ?_))
      exact bodyPost_ret (results_cell1 (p := 4) (ty := 113) Tryd.results157 _ _ (w.heap.size + 1 + 1) 113 P2 (0, 0) _ rfl (setRow_heap _ _ _ _ _ _ R3.out) Tryd.underlying113 rfl HI4.out) rfl ⟨rfl, setRow_below B3.out (by omega) _⟩
end Go.Proofs.YtabkkpifkkgpeaaDoor

/- Contracts of single functions, and plain lemmas, on which the exact laws of this seat rest; each holds under the conditions that it states. -/
namespace Go.Proofs.YtabkkpifkkgpeaaDoor
set_option linter.unusedVariables false
set_option linter.unusedSimpArgs false
open Go.RowKit

/-! ### two planes merged -/
def mgG (k : Nat) (g h : Nat → Nat) (Y j : Nat) : Nat := if j < Y then jnW k (g j) (h j) else g j
theorem mgG_step (k : Nat) (g h : Nat → Nat) (a b y : Nat) (hy : y < 24) : (pl a b (mgG k g h y)).setIfInBounds (2 + y) (.int .u32 ((jnW k (g y) (h y) : Nat) : Int)) = pl a b (mgG k g h (y + 1)) := by
  rw [pl_put a b _ y hy]
  refine pl_congr a b (fun j hj => ?_)
  unfold mgG
  by_cases e : j = y
  · subst e
    rw [if_pos rfl, if_pos (by omega)]
  · rw [if_neg e]
    by_cases h2 : j < y
    · rw [if_pos h2, if_pos (by omega)]
    · rw [if_neg h2, if_neg (by omega)]
/-- a rule that merges rows -/
def ruleV (k : Nat) : Value := .func (.func 85) #[.int .i64 k] #[]

set_option maxHeartbeats 4000000 in
set_option maxRecDepth 100000 in
theorem merged_any (k a b a2 b2 : Nat) (g h : Nat → Nat) (w : World) (hk : k < 4) (hg : PlW g) (hh : PlW h) :
    Calls Tryd.prog 84 #[.agg (pl a b g), .agg (pl a2 b2 h), ruleV k] w fun e w' => e = .returned (.agg (pl a b (mgG k g h 24))) ∧ Below w.heap.size w w' := by
  obtain ⟨P2, hP2⟩ : ∃ P2, pl a b (mgG k g h 24) = P2 := ⟨_, rfl⟩
  have HP2 := Lib.hid hP2
  have hsz2 : P2.size = 26 := by rw [← hP2]; rfl
  have HI4 : Hid ((Tryd.prog.info? 113).map (·.size) = some P2.size) := by show _ = _; rw [hsz2]; exact infoPl
  have HI5 : Hid (zerosP.size = P2.size) := by show _ = _; rw [hsz2]; rfl
  have HI6 : Hid (P2.all (·.oneCell') = true) := by show _ = _; rw [← hP2]; exact pl_one _ _ _
  rw [hP2]
  clear hP2 hsz2
  obtain ⟨M, hM⟩ : ∃ M, pl a b g = M := ⟨_, rfl⟩
  obtain ⟨O, hO⟩ : ∃ O, pl a2 b2 h = O := ⟨_, rfl⟩
  have hsz : M.size = 26 := by rw [← hM]; rfl
  have hszo : O.size = 26 := by rw [← hO]; rfl
  have HI : Hid ((Tryd.prog.info? 113).map (·.size) = some M.size) := by show _ = _; rw [hsz]; exact infoPl
  have HIo : Hid ((Tryd.prog.info? 113).map (·.size) = some O.size) := by show _ = _; rw [hszo]; exact infoPl
  have h0 : pl a b (mgG k g h 0) = M := by rw [← hM]; exact pl_congr a b (fun j _ => by unfold mgG; rw [if_neg (by omega)])
  have H0 := Lib.hid h0
  rw [hM, hO]
  obtain ⟨W0, hW0⟩ : ∃ W0, ((w.alloc (.cells M 113)).alloc (.cells O 113)).alloc (.cells #[.int .i64 0, .int .i64 0, .int .u32 0, .int .u32 0, .int .u32 0, .int .u32 0, .int .u32 0, .int .u32 0, .int .u32 0, .int .u32 0, .int .u32 0, .int .u32 0, .int .u32 0, .int .u32 0, .int .u32 0, .int .u32 0, .int .u32 0, .int .u32 0, .int .u32 0, .int .u32 0, .int .u32 0, .int .u32 0, .int .u32 0, .int .u32 0, .int .u32 0, .int .u32 0] 113) = W0 := ⟨_, rfl⟩
  have hz : zerosP = #[.int .i64 0, .int .i64 0, .int .u32 0, .int .u32 0, .int .u32 0, .int .u32 0, .int .u32 0, .int .u32 0, .int .u32 0, .int .u32 0, .int .u32 0, .int .u32 0, .int .u32 0, .int .u32 0, .int .u32 0, .int .u32 0, .int .u32 0, .int .u32 0, .int .u32 0, .int .u32 0, .int .u32 0, .int .u32 0, .int .u32 0, .int .u32 0, .int .u32 0, .int .u32 0] := rfl
  have hw0 : W0.heap.size = w.heap.size + 1 + 1 + 1 := by rw [← hW0]; simp
  have hb0 : Below w.heap.size w W0 := by rw [← hW0]; exact Joins.below_alloc3 _ _ _ _
  have hq0 : W0.heap[w.heap.size]? = some (.cells M 113 (0, 0)) := by
    rw [← hW0, Below.heap_alloc _ _ _ (by simp; omega), Below.heap_alloc _ _ _ (by simp)]; exact heap_alloc_last w _
  have hd0 : W0.heap[w.heap.size + 1]? = some (.cells O 113 (0, 0)) := by
    rw [← hW0, Below.heap_alloc _ _ _ (by simp)]
    exact heap_alloc2_new _ _ _
  have hr0 : W0.heap[w.heap.size + 1 + 1]? = some (.cells zerosP 113 (0, 0)) := by
    rw [← hW0, hz]
    have := heap_alloc_last ((w.alloc (.cells M 113)).alloc (.cells O 113)) (.cells #[.int .i64 0, .int .i64 0, .int .u32 0, .int .u32 0, .int .u32 0, .int .u32 0, .int .u32 0, .int .u32 0, .int .u32 0, .int .u32 0, .int .u32 0, .int .u32 0, .int .u32 0, .int .u32 0, .int .u32 0, .int .u32 0, .int .u32 0, .int .u32 0, .int .u32 0, .int .u32 0, .int .u32 0, .int .u32 0, .int .u32 0, .int .u32 0, .int .u32 0, .int .u32 0] 113)
    simpa only [World.size_alloc] using this
  have HW0 := Lib.hid hW0
  have HM2 := Lib.hid hq0
  have HR2 := Lib.hid hr0
  have HB2 := Lib.hid hb0
  have hra : W0.rangeAt w.heap.size.succ 2 (rowsP h) := by
    have h := hd0
    rw [← hO] at h
    exact rowsP_range h
  have HRA : Hid (W0.rangeAt (w.heap.size + 1) 2 (rowsP h)) := hra
  have HRL := Lib.hid (infoRowsP.trans (congrArg some (rowsP_len h).symm))
  have HRx : Hid (∀ j, j < 24 → (rowsP h).toArray[j]? = some (.int .u32 (h j))) := fun j hj => rowsP_at h j hj
  obtain ⟨R, hR⟩ : ∃ R, rowsP h = R := ⟨_, rfl⟩
  rw [hR] at HRA HRL HRx
  obtain ⟨RA, hRA⟩ : ∃ RA, R.toArray = RA := ⟨_, rfl⟩
  have HRe := Lib.hid hRA
  rw [hRA] at HRx
  have CJ : Hid (∀ y W, Calls Tryd.prog 85 #[.int .i64 k, .int .u32 (g y), .int .u32 (h y)] W fun e w' => e = .returned (.int .u32 (jnW k (g y) (h y))) ∧ W = w') := fun y W => join_any k (g y) (h y) W hk (hg y) (hh y)
  clear hM hO hsz hszo hW0 hz hq0 hd0 hr0 hb0 hw0 hra hR hRA h0
  unfold ruleV
  go_enter Tryd.func84, Tryd.ntmps84
  go_upto_region 1 with fail
  rw [HW0.out]
  go_wp2_with (first | (refine wpList_load_mid rfl 111 _ rfl (w.heap.size + 1) 2 rfl R _ HRA.out Tryd.underlying111 rfl HRL.out ?_; rw [HRe.out]))
  clear HRA
  go_loopw [11] (fun yv wr => ∃ y : Nat, y ≤ 24 ∧ yv = .int .i64 y ∧ wr.heap[w.heap.size + 1 + 1]? = some (.cells zerosP 113 (0, 0)) ∧ wr.heap[w.heap.size]? = some (.cells (pl a b (mgG k g h y)) 113 (0, 0)) ∧ Below w.heap.size w wr) (fun yv _ => 24 - (intOf yv).toNat)
  case atStart => exact ⟨0, Nat.zero_le _, rfl, HR2.out, by rw [H0.out]; exact HM2.out, HB2.out⟩
  case round =>
    obtain ⟨y, hyl, rfl, hr, hsh, hbel⟩ := hrel
    have R3 := Lib.hid hr
    have S3 := Lib.hid hsh
    have B3 := Lib.hid hbel
    clear hr hbel
    by_cases hlt : y < 24
    · have ky : (y : Int) < 24 := by omega
      have hri := HRx.out y hlt
      have hix := fun w => run_index_rowsP RA y _ w hlt hri
      have HST := Lib.hid (mgG_step k g h a b y hlt)
      have hl := (Array.getElem?_eq_some_iff.1 hsh).1
      have fz : wr.frozen? ⟨w.heap.size, 2 + y, none⟩ = false := Joins.unfrozen_of_block hsh _
      have cy : wr.cell? ⟨w.heap.size, 2 + y, none⟩ = some (.int .u32 (g y)) := by
        rw [Joins.cell_of_block hsh (2 + y), pl_word _ _ _ y hlt]
        unfold mgG
        rw [if_neg (by omega)]
      have HX := Lib.hid (Lib.heap_setCell_same (i := 2 + y) S3.out (.int .u32 ((jnW k (g y) (h y) : Nat) : Int)))
      rw [HST.out] at HX
      have C1 := Lib.hid (CJ.out y)
      obtain ⟨G, hG⟩ : ∃ G, g y = G := ⟨_, rfl⟩
      obtain ⟨H, hH⟩ : ∃ G, h y = G := ⟨_, rfl⟩
      rw [hG] at cy HX C1
      rw [hH] at hri hix HX C1
      obtain ⟨Z, hZ⟩ : ∃ Z, jnW k G H = Z := ⟨_, rfl⟩
      rw [hZ] at HX C1
      clear hsh hG hH hZ CJ
      go_wp2_with fail
      refine (C1.out _).mono ?_
      rintro e w2 ⟨rfl, rfl⟩
      go_wp2
      all_goals exact ⟨⟨y + 1, by omega, by go_num, (Below.heap_setCell _ _ _ _ (by simp; omega)).trans R3.out, HX.out, B3.out.setCell (p := ⟨w.heap.size, 2 + y, none⟩) (Nat.le_refl _) _⟩, by simp [intOf]; omega⟩
    · obtain rfl : y = 24 := by omega
      rw [HP2.out] at S3
      clear hsh
      go_wp2_with (first | (refine wpList_load_row rfl 113 _ rfl w.heap.size rfl 113 P2 (0, 0) _ S3.out Tryd.underlying113 rfl HI4.out ?_) | (refine wpList_store_row rfl 113 _ _ rfl (w.heap.size + 1 + 1) P2 rfl rfl 113 zerosP R3.out HI4.out HI5.out HI6.out ?_))
      exact bodyPost_ret (results_cell1 (p := 6) (ty := 113) Tryd.results84 _ _ (w.heap.size + 1 + 1) 113 P2 (0, 0) _ rfl (setRow_heap _ _ _ _ _ _ R3.out) Tryd.underlying113 rfl HI4.out) rfl ⟨rfl, setRow_below B3.out (by omega) _⟩
end Go.Proofs.YtabkkpifkkgpeaaDoor
