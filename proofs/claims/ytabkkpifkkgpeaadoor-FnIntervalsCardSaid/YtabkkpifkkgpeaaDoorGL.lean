/- Contracts of single functions, and plain lemmas, on which the exact laws of this seat rest; each holds under the conditions that it states. -/
import Derived.Test.YtabkkpifkkgpeaaDoorGD
import Derived.Test.YtabkkpifkkgpeaaDoorR1
import Derived.Test.YtabkkpifkkgpeaaDoorJa
import Derived.Test.YtabkkpifkkgpeaaDoorSc
import Derived.Test.YtabkkpifkkgpeaaDoorRc
import Derived.Deep.DeepCutAuto
import Derived.Test.YtabkkpifkkgpeaaDoorMo
import Derived.BigQuiet
import Derived.Deep.QuietTactic
namespace Go.Proofs.YtabkkpifkkgpeaaDoor
set_option linter.unusedVariables false
set_option linter.unusedSimpArgs false
open Go.RowKit

/-- rows that are valid come back as they are; others are given up -/
def ReqRows (m : Int) (gs : List (List Int)) (v : Value) (w : World) (e : Ending) (w' : World) : Prop :=
  ((vG m gs = true ∧ e = .returned v) ∨ (vG m gs = false ∧ ∃ T x, e = .panicked [{ v := .iface T x, recovered := false }])) ∧ Below w.heap.size w w'

end Go.Proofs.YtabkkpifkkgpeaaDoor

/- Contracts of single functions, and plain lemmas, on which the exact laws of this seat rest; each holds under the conditions that it states. -/
namespace Go.Proofs.YtabkkpifkkgpeaaDoor
set_option linter.unusedVariables false
set_option linter.unusedSimpArgs false
open Go.RowKit

/-! ### planes: twenty-six cells: the width, the height, twenty-four words -/
def pcells (a b : Int) (f : Nat → Int) : Array Value := #[.int .i64 a, .int .i64 b, .int .u32 (f 0), .int .u32 (f 1), .int .u32 (f 2), .int .u32 (f 3), .int .u32 (f 4), .int .u32 (f 5), .int .u32 (f 6), .int .u32 (f 7), .int .u32 (f 8), .int .u32 (f 9), .int .u32 (f 10), .int .u32 (f 11), .int .u32 (f 12), .int .u32 (f 13), .int .u32 (f 14), .int .u32 (f 15), .int .u32 (f 16), .int .u32 (f 17), .int .u32 (f 18), .int .u32 (f 19), .int .u32 (f 20), .int .u32 (f 21), .int .u32 (f 22), .int .u32 (f 23)]
theorem pcells_size (a b : Int) (f : Nat → Int) : (pcells a b f).size = 26 := rfl
theorem pcells_one (a b : Int) (f : Nat → Int) : (pcells a b f).all (·.oneCell') = true := by simp [pcells, Value.oneCell']
theorem pcells_word (a b : Int) (f : Nat → Int) (j : Nat) (h : j < 24) : (pcells a b f)[2 + j]? = some (.int .u32 (f j)) := by
  have : j = 0 ∨ j = 1 ∨ j = 2 ∨ j = 3 ∨ j = 4 ∨ j = 5 ∨ j = 6 ∨ j = 7 ∨ j = 8 ∨ j = 9 ∨ j = 10 ∨ j = 11 ∨ j = 12 ∨ j = 13 ∨ j = 14 ∨ j = 15 ∨ j = 16 ∨ j = 17 ∨ j = 18 ∨ j = 19 ∨ j = 20 ∨ j = 21 ∨ j = 22 ∨ j = 23 := by omega
  rcases this with rfl | rfl | rfl | rfl | rfl | rfl | rfl | rfl | rfl | rfl | rfl | rfl | rfl | rfl | rfl | rfl | rfl | rfl | rfl | rfl | rfl | rfl | rfl | rfl <;> rfl
theorem pcells_set (a b : Int) (f : Nat → Int) (j : Nat) (h : j < 24) (x : Int) : (pcells a b f).setIfInBounds (2 + j) (.int .u32 x) = pcells a b (fun i => if i = j then x else f i) := by
  have : j = 0 ∨ j = 1 ∨ j = 2 ∨ j = 3 ∨ j = 4 ∨ j = 5 ∨ j = 6 ∨ j = 7 ∨ j = 8 ∨ j = 9 ∨ j = 10 ∨ j = 11 ∨ j = 12 ∨ j = 13 ∨ j = 14 ∨ j = 15 ∨ j = 16 ∨ j = 17 ∨ j = 18 ∨ j = 19 ∨ j = 20 ∨ j = 21 ∨ j = 22 ∨ j = 23 := by omega
  rcases this with rfl | rfl | rfl | rfl | rfl | rfl | rfl | rfl | rfl | rfl | rfl | rfl | rfl | rfl | rfl | rfl | rfl | rfl | rfl | rfl | rfl | rfl | rfl | rfl <;> rfl
theorem pcells_congr (a b : Int) {f g : Nat → Int} (h : ∀ j, j < 24 → f j = g j) : pcells a b f = pcells a b g := by
  unfold pcells
  rw [h 0 (by omega), h 1 (by omega), h 2 (by omega), h 3 (by omega), h 4 (by omega), h 5 (by omega), h 6 (by omega), h 7 (by omega), h 8 (by omega), h 9 (by omega), h 10 (by omega), h 11 (by omega), h 12 (by omega), h 13 (by omega), h 14 (by omega), h 15 (by omega), h 16 (by omega), h 17 (by omega), h 18 (by omega), h 19 (by omega), h 20 (by omega), h 21 (by omega), h 22 (by omega), h 23 (by omega)]
/-- the plane of words -/
def pl (a b : Nat) (g : Nat → Nat) : Array Value := pcells a b (fun j => (g j : Int))
theorem pl_size (a b : Nat) (g : Nat → Nat) : (pl a b g).size = 26 := rfl
theorem pl_one (a b : Nat) (g : Nat → Nat) : (pl a b g).all (·.oneCell') = true := pcells_one _ _ _
theorem pl_word (a b : Nat) (g : Nat → Nat) (j : Nat) (h : j < 24) : (pl a b g)[2 + j]? = some (.int .u32 (g j)) := pcells_word _ _ _ j h
theorem pl_congr (a b : Nat) {f g : Nat → Nat} (h : ∀ j, j < 24 → f j = g j) : pl a b f = pl a b g := pcells_congr _ _ (fun j hj => by rw [h j hj])
theorem pl_put (a b : Nat) (g : Nat → Nat) (q : Nat) (hq : q < 24) (x : Nat) : (pl a b g).setIfInBounds (2 + q) (.int .u32 x) = pl a b (fun j => if j = q then x else g j) := by
  unfold pl
  rw [pcells_set _ _ _ q hq]
  congr 1
  funext j
  show _ = ((if j = q then x else g j : Nat) : Int)
  split <;> rfl
theorem infoPl : (Tryd.prog.info? 113).map (·.size) = some 26 := by kernel_rfl
def zerosP : Array Value := pcells 0 0 (fun _ => 0)
/-- a plane's words fit -/
def PlW (g : Nat → Nat) : Prop := ∀ j, g j < 16777216
def jnW (k : Nat) (W V : Nat) : Nat := if k = 0 then jW0 W V else if k = 1 then jW1 W V else if k = 2 then jW2 W V else jW3 W V
def jnF (k : Nat) (p q : Bool) : Bool := if k = 0 then jF0 p q else if k = 1 then jF1 p q else if k = 2 then jF2 p q else jF3 p q
theorem jn_bit (k W V x : Nat) (hV : V < 4294967296) (hx : x < 32) : (jnW k W V).testBit x = jnF k (W.testBit x) (V.testBit x) := by
  unfold jnW jnF
  split
  · exact jB0 W V x hV hx
  · split
    · exact jB1 W V x hV hx
    · split
      · exact jB2 W V x hV hx
      · exact jB3 W V x hV hx
theorem jn_lt (k W V : Nat) (hW : W < 16777216) (hV : V < 16777216) : jnW k W V < 16777216 := by
  unfold jnW jW0 jW1 jW2 jW3
  split
  · exact Nat.lt_of_le_of_lt Nat.and_le_left hW
  · split
    · exact Nat.or_lt_two_pow (n := 24) hW hV
    · split
      · exact Nat.xor_lt_two_pow (n := 24) hW hV
      · exact Nat.lt_of_le_of_lt Nat.and_le_left hW
theorem join_any (k W V : Nat) (w : World) (hk : k < 4) (hW : W < 16777216) (hV : V < 16777216) : Calls Tryd.prog 85 #[.int .i64 k, .int .u32 W, .int .u32 V] w fun e w' => e = .returned (.int .u32 (jnW k W V)) ∧ w = w' := by
  rcases (by omega : k = 0 ∨ k = 1 ∨ k = 2 ∨ k = 3) with rfl | rfl | rfl | rfl
  · exact join_0 W V w (by omega) (by omega)
  · exact join_1 W V w (by omega) (by omega)
  · exact join_2 W V w (by omega) (by omega)
  · exact join_3 W V w (by omega) (by omega)

section
variable {P : Program} {ops : Array Oper} {rest : List Oper} {o : Oper} {a : Act} {w : World} {Q : Exit → Act → World → Prop}
/-- a struct is built, as is known beforehand -/
theorem wpList_build_as (hg : o.guard = none) (t : TypeId) (parts : Array (Nat × Operand)) (ho : o.op = .build t parts) (vals : List (Nat × Value)) (cells : Array Value)
    (hv : parts.toList.map (fun (i, x) => (i, a.eval x)) = vals) (hb : P.built t vals = some cells) (h : wpList P ops Q rest (a.put o.dst (.agg cells)) w) : wpList P ops Q (o :: rest) a w :=
  wpList_build hg t parts ho (by rw [Array.toList_map, hv, hb]; rfl) (by rw [Array.toList_map, hv, hb]; exact h)
end
theorem built_pl (a b : Int) : Tryd.prog.built 113 [(0, .int .i64 a), (1, .int .i64 b)] = some (pcells a b (fun _ => 0)) := by kernel_rfl

/-! ### the plane of a matrix -/
def plOf (g : Nat → Nat) (Y j : Nat) : Nat := if 4 ≤ j ∧ j < 4 + Y then g (j - 4) * 16 else 0
theorem plOf_zero (g : Nat → Nat) (a b : Nat) : pl a b (plOf g 0) = pcells a b (fun _ => 0) := by
  unfold pl
  refine pcells_congr _ _ (fun j _ => ?_)
  unfold plOf
  rw [if_neg (by omega)]
  rfl
theorem plOf_step (g : Nat → Nat) (a b y : Nat) (hy : y < 16) : (pl a b (plOf g y)).setIfInBounds (2 + (y + 4)) (.int .u32 ((g y * 16 : Nat) : Int)) = pl a b (plOf g (y + 1)) := by
  rw [pl_put a b _ (y + 4) (by omega)]
  refine pl_congr a b (fun j hj => ?_)
  unfold plOf
  by_cases h : j = y + 4
  · subst h
    rw [if_pos rfl, if_pos (by omega)]
    congr 2
  · rw [if_neg h]
    by_cases h2 : 4 ≤ j ∧ j < 4 + y
    · rw [if_pos h2, if_pos (by omega)]
    · rw [if_neg h2, if_neg (by omega)]

set_option maxHeartbeats 4000000 in
set_option maxRecDepth 100000 in
theorem planeOf_any (a b : Nat) (g : Nat → Nat) (w : World) (ha : a ≤ 16) (hb : b ≤ 16) (hg : ∀ j, g j < 65536) :
    Calls Tryd.prog 136 #[.agg (mat a b g)] w fun e w' => e = .returned (.agg (pl a b (plOf g b))) ∧ Below w.heap.size w w' := by
  obtain ⟨P2, hP2⟩ : ∃ P2, pl a b (plOf g b) = P2 := ⟨_, rfl⟩
  have HP2 := Lib.hid hP2
  have hsz2 : P2.size = 26 := by rw [← hP2]; rfl
  have HI4 : Hid ((Tryd.prog.info? 113).map (·.size) = some P2.size) := by show _ = _; rw [hsz2]; exact infoPl
  have HI5 : Hid (zerosP.size = P2.size) := by show _ = _; rw [hsz2]; rfl
  have HI6 : Hid (P2.all (·.oneCell') = true) := by show _ = _; rw [← hP2]; exact pl_one _ _ _
  rw [hP2]
  clear hP2 hsz2
  obtain ⟨M, hM⟩ : ∃ M, mat a b g = M := ⟨_, rfl⟩
  have hsz : M.size = 18 := by rw [← hM]; rfl
  have hone : M.all (·.oneCell') = true := by rw [← hM]; exact mat_one _ _ _
  have HI : Hid ((Tryd.prog.info? 96).map (·.size) = some M.size) := by show _ = _; rw [hsz]; exact infoM
  have HMM := Lib.hid hM
  rw [hM]
  have hm2 : (((w.alloc (.cells M 96)).alloc (.cells zerosP 113)).alloc (.cells (pcells a b (fun _ => 0)) 113)).heap[w.heap.size]? = some (.cells M 96 (0, 0)) := by
    rw [Below.heap_alloc _ _ _ (by simp; omega), Below.heap_alloc _ _ _ (by simp)]; exact heap_alloc_last w _
  have hr2 : (((w.alloc (.cells M 96)).alloc (.cells zerosP 113)).alloc (.cells (pcells a b (fun _ => 0)) 113)).heap[w.heap.size + 1]? = some (.cells zerosP 113 (0, 0)) := by
    rw [Below.heap_alloc _ _ _ (by simp)]
    exact heap_alloc2_new _ _ _
  have hs2 : (((w.alloc (.cells M 96)).alloc (.cells zerosP 113)).alloc (.cells (pcells a b (fun _ => 0)) 113)).heap[w.heap.size + 1 + 1]? = some (.cells (pcells a b (fun _ => 0)) 113 (0, 0)) := by
    have := heap_alloc_last ((w.alloc (.cells M 96)).alloc (.cells zerosP 113)) (.cells (pcells a b (fun _ => 0)) 113)
    simpa only [World.size_alloc] using this
  obtain ⟨W0, hW0⟩ : ∃ W0, (w.alloc (.cells M 96)).alloc (.cells #[.int .i64 0, .int .i64 0, .int .u32 0, .int .u32 0, .int .u32 0, .int .u32 0, .int .u32 0, .int .u32 0, .int .u32 0, .int .u32 0, .int .u32 0, .int .u32 0, .int .u32 0, .int .u32 0, .int .u32 0, .int .u32 0, .int .u32 0, .int .u32 0, .int .u32 0, .int .u32 0, .int .u32 0, .int .u32 0, .int .u32 0, .int .u32 0, .int .u32 0, .int .u32 0] 113) = W0 := ⟨_, rfl⟩
  have hz : zerosP = #[.int .i64 0, .int .i64 0, .int .u32 0, .int .u32 0, .int .u32 0, .int .u32 0, .int .u32 0, .int .u32 0, .int .u32 0, .int .u32 0, .int .u32 0, .int .u32 0, .int .u32 0, .int .u32 0, .int .u32 0, .int .u32 0, .int .u32 0, .int .u32 0, .int .u32 0, .int .u32 0, .int .u32 0, .int .u32 0, .int .u32 0, .int .u32 0, .int .u32 0, .int .u32 0] := rfl
  rw [hz, hW0] at hm2 hr2 hs2
  have hw0 : W0.heap.size = w.heap.size + 1 + 1 := by rw [← hW0]; simp
  have hb0 : Below w.heap.size w W0 := by rw [← hW0]; exact Joins.below_alloc2 _ _ _
  have hq0 : W0.heap[w.heap.size]? = some (.cells M 96 (0, 0)) := by
    rw [← hW0, Below.heap_alloc _ _ _ (by simp)]; exact heap_alloc_last w _
  have c0 : W0.cell? ⟨w.heap.size, 0, none⟩ = some (.int .i64 a) := by
    rw [Joins.cell_of_block hq0 0, ← hM]; rfl
  have c1 : W0.cell? ⟨w.heap.size, 1, none⟩ = some (.int .i64 b) := by
    rw [Joins.cell_of_block hq0 1, ← hM]; rfl
  have HW0 := Lib.hid hW0
  have HI1 : Hid ((Tryd.prog.info? 113).map (·.size) = some (pcells a b (fun _ => 0)).size) := infoPl
  have HI2 : Hid (zerosP.size = (pcells a b (fun _ => 0)).size) := rfl
  have HI3 : Hid ((pcells a b (fun _ => 0)).all (·.oneCell') = true) := pcells_one a b (fun _ => 0)
  have HBl := Lib.hid (built_pl a b)
  have hPz : zerosP = pcells 0 0 (fun _ => 0) := rfl
  obtain ⟨C0, hC0⟩ : ∃ C, pcells a b (fun _ => 0) = C := ⟨_, rfl⟩
  have HC0 := Lib.hid hC0
  rw [hC0] at HI1 HI2 HI3 HBl hs2 hr2 hm2
  have HM2 := Lib.hid hm2
  have c2 : (W0.alloc (.cells C0 113)).cell? ⟨w.heap.size, 1, none⟩ = some (.int .i64 b) := by rw [Joins.cell_of_block hm2 1, ← hM]; rfl
  have HR2 := Lib.hid hr2
  have HB2 := Lib.hid (hb0.alloc hb0.size (.cells C0 113))
  have l0 : w.heap.size + 1 < W0.heap.size := by omega
  rw [← hw0] at hs2
  have HS2 := Lib.hid hs2
  clear hM hsz hone hm2 hr2 hs2 hW0 hz hq0 hb0 hC0 hPz hw0
  go_enter Tryd.func136, Tryd.ntmps136
  go_upto_region 1 with fail
  rw [HW0.out]
  go_wp2_with (first | (refine wpList_build_as rfl 113 _ rfl [(0, .int .i64 a), (1, .int .i64 b)] C0 rfl HBl.out ?_) | (refine wpList_store_new W0 rfl 113 _ _ rfl C0 rfl rfl 113 zerosP HI1.out HI2.out HI3.out ?_))
  obtain ⟨m0, hm0⟩ : ∃ m0, W0.heap.size = m0 := ⟨_, rfl⟩
  obtain ⟨W1, hW1⟩ : ∃ W1, W0.alloc (.cells C0 113) = W1 := ⟨_, rfl⟩
  rw [hm0] at HS2 l0 ⊢
  rw [hW1] at HS2 HR2 HM2 HB2 ⊢
  clear hm0 hW1 c0 c1 c2
  go_loopw [12] (fun yv wr => ∃ y : Nat, y ≤ b ∧ yv = .int .i64 y ∧ wr.heap[w.heap.size]? = some (.cells M 96 (0, 0)) ∧ wr.heap[w.heap.size + 1]? = some (.cells zerosP 113 (0, 0)) ∧ wr.heap[m0]? = some (.cells (pl a b (plOf g y)) 113 (0, 0)) ∧ Below w.heap.size w wr) (fun yv _ => b - (intOf yv).toNat)
  case atStart => exact ⟨0, Nat.zero_le _, rfl, HM2.out, HR2.out, by rw [plOf_zero, HC0.out]; exact HS2.out, HB2.out⟩
  case round =>
    obtain ⟨y, hy, rfl, hm, hr, hsh, hbel⟩ := hrel
    have M3 := Lib.hid hm
    have R3 := Lib.hid hr
    have S3 := Lib.hid hsh
    have B3 := Lib.hid hbel
    have l3 : m0 < wr.heap.size := (Array.getElem?_eq_some_iff.1 hsh).1
    clear hr hbel
    by_cases hlt : y < b
    · have kyb : (y : Int) < (b : Int) := by omega
      have ky16 : (y : Int) < 16 := by omega
      have ky4 : (y : Int) + 4 < 24 := by omega
      have hgy := hg y
      have cq : wr.cell? ⟨w.heap.size, 2 + y, none⟩ = some (.int .u32 (g y)) := by
        rw [Joins.cell_of_block hm (2 + y), ← HMM.out]; exact mcells_word _ _ _ y (by omega)
      have fz : wr.frozen? ⟨m0, 2 + (y + 4), none⟩ = false := Joins.unfrozen_of_block hsh _
      have cy : wr.cell? ⟨m0, 2 + (y + 4), none⟩ = some (.int .u32 (plOf g y (y + 4))) := by
        rw [Joins.cell_of_block hsh (2 + (y + 4))]; exact pl_word _ _ _ (y + 4) (by omega)
      have HX := Lib.hid (Lib.heap_setCell_same (i := 2 + (y + 4)) S3.out (.int .u32 ((g y * 16 : Nat) : Int)))
      rw [plOf_step g a b y (by omega)] at HX
      obtain ⟨G, hG⟩ : ∃ G, g y = G := ⟨_, rfl⟩
      rw [hG] at cq HX hgy
      clear hm hsh hG
      go_wp2
      refine ⟨⟨y + 1, by omega, by go_num, ?_, ?_, ?_, ?_⟩, by simp [intOf]; omega⟩
      · exact (Below.heap_setCell _ _ _ _ (by simp; omega)).trans M3.out
      · exact (Below.heap_setCell _ _ _ _ (by simp; omega)).trans R3.out
      · exact HX.out
      · exact B3.out.setCell (by simp; omega) _
    · obtain rfl : y = b := by omega
      rw [HP2.out] at S3
      clear hm hsh
      go_wp2_with (first | (refine wpList_load_row rfl 113 _ rfl m0 rfl 113 P2 (0, 0) _ S3.out Tryd.underlying113 rfl HI4.out ?_) | (refine wpList_store_row rfl 113 _ _ rfl (w.heap.size + 1) P2 rfl rfl 113 zerosP R3.out HI4.out HI5.out HI6.out ?_))
      exact bodyPost_ret (results_cell1 (p := 2) (ty := 113) Tryd.results136 _ _ (w.heap.size + 1) 113 P2 (0, 0) _ rfl (setRow_heap _ _ _ _ _ _ R3.out) Tryd.underlying113 rfl HI4.out) rfl ⟨rfl, setRow_below B3.out (by omega) _⟩
end Go.Proofs.YtabkkpifkkgpeaaDoor

/- Contracts of single functions, and plain lemmas, on which the exact laws of this seat rest; each holds under the conditions that it states. -/
namespace Go.Proofs.YtabkkpifkkgpeaaDoor
set_option linter.unusedVariables false
set_option linter.unusedSimpArgs false
open Go.RowKit
attribute [local go_sem] Oper.semAt_some

/-! ### the pixels of a grey picture -/
theorem built_m2 (a b : Int) : Tryd.prog.built 96 [(0, .int .i64 a), (1, .int .i64 b)] = some (mcells a b (fun _ => 0)) := by kernel_rfl
end Go.Proofs.YtabkkpifkkgpeaaDoor
