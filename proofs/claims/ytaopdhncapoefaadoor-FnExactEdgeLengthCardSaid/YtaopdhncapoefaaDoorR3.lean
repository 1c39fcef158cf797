/- Contracts of single functions, and plain lemmas, on which the exact laws of this seat rest; each holds under the conditions that it states. -/
import Derived.Test.YtaopdhncapoefaaDoorR2
import Derived.Test.YtaopdhncapoefaaDoorOc
import Derived.Deep.MidRow
namespace Go.Proofs.YtaopdhncapoefaaDoor
set_option linter.unusedVariables false
set_option linter.unusedSimpArgs false
open Go.RowKit

/-- the table of pixels on the right of steps -/
def rpL : List Value := [.int .i64 0, .int .i64 0, .int .i64 (-1), .int .i64 0, .int .i64 (-1), .int .i64 (-1), .int .i64 0, .int .i64 (-1)]
def RightP (w : World) : Prop := w.rangeAt 0 0 rpL ∧ 0 < w.heap.size
theorem RightP.below {w w' : World} (h : RightP w) (hb : Below w.heap.size w w') : RightP w' :=
  ⟨fun j v hv => (hb.cell (p := ⟨_, _, none⟩) h.2).trans (h.1 j v hv), Nat.lt_of_lt_of_le h.2 hb.size⟩
theorem infoRp : (Tryd.prog.info? 99).map (·.size) = some rpL.length := by kernel_rfl
theorem infoCs : (Tryd.prog.info? 68).map (·.size) = some 4 := by kernel_rfl

theorem ixr0 (w : World) : (Instr.index 99 (.agg #[.int .i64 0, .int .i64 0, .int .i64 (-1), .int .i64 0, .int .i64 (-1), .int .i64 (-1), .int .i64 0, .int .i64 (-1)]) (.int .i64 0)).run Tryd.prog w = .ok (.agg #[.int .i64 0, .int .i64 0]) w := by kernel_rfl
theorem ixr1 (w : World) : (Instr.index 99 (.agg #[.int .i64 0, .int .i64 0, .int .i64 (-1), .int .i64 0, .int .i64 (-1), .int .i64 (-1), .int .i64 0, .int .i64 (-1)]) (.int .i64 1)).run Tryd.prog w = .ok (.agg #[.int .i64 (-1), .int .i64 0]) w := by kernel_rfl
theorem ixr2 (w : World) : (Instr.index 99 (.agg #[.int .i64 0, .int .i64 0, .int .i64 (-1), .int .i64 0, .int .i64 (-1), .int .i64 (-1), .int .i64 0, .int .i64 (-1)]) (.int .i64 2)).run Tryd.prog w = .ok (.agg #[.int .i64 (-1), .int .i64 (-1)]) w := by kernel_rfl
theorem ixr3 (w : World) : (Instr.index 99 (.agg #[.int .i64 0, .int .i64 0, .int .i64 (-1), .int .i64 0, .int .i64 (-1), .int .i64 (-1), .int .i64 0, .int .i64 (-1)]) (.int .i64 3)).run Tryd.prog w = .ok (.agg #[.int .i64 0, .int .i64 (-1)]) w := by kernel_rfl

def crV (p : Int → Int → Bool) (x y : Int) : Nat → Bool
  | 0 => p x y
  | 1 => p (x + -1) y
  | 2 => p (x + -1) (y + -1)
  | _ => p x (y + -1)
def crS (p : Int → Int → Bool) (x y : Int) (k : Nat) : Array Value := #[.bool (decide (0 < k) && crV p x y 0), .bool (decide (1 < k) && crV p x y 1), .bool (decide (2 < k) && crV p x y 2), .bool (decide (3 < k) && crV p x y 3)]

theorem crS_at (p : Int → Int → Bool) (x y : Int) {i : Nat} (h : i < 4) : (crS p x y i)[i]? = some (.bool false) := by
  rcases (by omega : i = 0 ∨ i = 1 ∨ i = 2 ∨ i = 3) with rfl | rfl | rfl | rfl <;> rfl
theorem crS_set (p : Int → Int → Bool) (x y : Int) {i : Nat} (h : i < 4) : (crS p x y i).setIfInBounds i (.bool (crV p x y i)) = crS p x y (i + 1) := by
  rcases (by omega : i = 0 ∨ i = 1 ∨ i = 2 ∨ i = 3) with rfl | rfl | rfl | rfl <;> rfl

theorem crS_one (p : Int → Int → Bool) (x y : Int) (k : Nat) : (crS p x y k).all (·.oneCell') = true := by
  unfold crS
  first | rfl | simp [Value.oneCell'] | (generalize (decide (0 < k) && crV p x y 0) = b0; generalize (decide (1 < k) && crV p x y 1) = b1; generalize (decide (2 < k) && crV p x y 2) = b2; generalize (decide (3 < k) && crV p x y 3) = b3; cases b0 <;> cases b1 <;> cases b2 <;> cases b3 <;> rfl)
structure CorS (w W : World) (M : Array Value) (p : Int → Int → Bool) (x y : Int) (k : Nat) : Prop where
  m : W.heap[w.heap.size]? = some (.cells M 58 (0, 0))
  s : W.heap[w.heap.size + 1]? = some (.cells #[.int .i64 x, .int .i64 y] 71 (0, 0))
  r : W.heap[w.heap.size + 1 + 1]? = some (.cells #[.bool false, .bool false, .bool false, .bool false] 68 (0, 0))
  c : W.heap[w.heap.size + 1 + 1 + 1]? = some (.cells (crS p x y k) 68 (0, 0))
  bel : Below w.heap.size w W
theorem CorS.below {w W W' : World} {M : Array Value} {p : Int → Int → Bool} {x y : Int} {k : Nat} (h : CorS w W M p x y k) (hb : Below W.heap.size W W') : CorS w W' M p x y k :=
  ⟨(hb.block _ (Array.getElem?_eq_some_iff.1 h.m).1).trans h.m, (hb.block _ (Array.getElem?_eq_some_iff.1 h.s).1).trans h.s, (hb.block _ (Array.getElem?_eq_some_iff.1 h.r).1).trans h.r, (hb.block _ (Array.getElem?_eq_some_iff.1 h.c).1).trans h.c, h.bel.trans (hb.mono h.bel.size)⟩
theorem CorS.set {w W : World} {M : Array Value} {p : Int → Int → Bool} {x y : Int} {k : Nat} (h : CorS w W M p x y k) (i : Nat) (v : Value) (he : (crS p x y k).setIfInBounds i v = crS p x y (k + 1)) : CorS w (W.setCell ⟨w.heap.size + 1 + 1 + 1, i, none⟩ v) M p x y (k + 1) :=
  ⟨(Below.heap_setCell _ _ _ _ (by first | (simp; done) | (simp; omega))).trans h.m, (Below.heap_setCell _ _ _ _ (by first | (simp; done) | (simp; omega))).trans h.s, (Below.heap_setCell _ _ _ _ (by first | (simp; done) | (simp; omega))).trans h.r, by rw [Joins.block_setCell h.c v, he], h.bel.setCell (p := ⟨w.heap.size + 1 + 1 + 1, i, none⟩) (by simp; omega) v⟩
theorem CorS.start (w : World) (M : Array Value) (p : Int → Int → Bool) (x y : Int) : CorS w ((((w.alloc (.cells M 58)).alloc (.cells #[.int .i64 x, .int .i64 y] 71)).alloc (.cells #[.bool false, .bool false, .bool false, .bool false] 68)).alloc (.cells #[.bool false, .bool false, .bool false, .bool false] 68)) M p x y 0 := by
  refine ⟨?_, ?_, ?_, ?_, (Joins.below_alloc2 w _ _).trans ((Joins.below_alloc2 _ _ _).mono (by simp; omega))⟩
  · rw [Below.heap_alloc _ _ _ (by first | (simp; done) | (simp; omega)), Below.heap_alloc _ _ _ (by first | (simp; done) | (simp; omega)), Below.heap_alloc _ _ _ (by simp)]; exact heap_alloc_last w _
  · rw [Below.heap_alloc _ _ _ (by first | (simp; done) | (simp; omega)), Below.heap_alloc _ _ _ (by first | (simp; done) | (simp; omega))]; exact heap_alloc2_new _ _ _
  · rw [Below.heap_alloc _ _ _ (by simp)]
    have := heap_alloc_last ((w.alloc (.cells M 58)).alloc (.cells #[.int .i64 x, .int .i64 y] 71)) (.cells #[.bool false, .bool false, .bool false, .bool false] 68)
    simpa using this
  · rw [show crS p x y 0 = #[.bool false, .bool false, .bool false, .bool false] from rfl]
    have := heap_alloc_last (((w.alloc (.cells M 58)).alloc (.cells #[.int .i64 x, .int .i64 y] 71)).alloc (.cells #[.bool false, .bool false, .bool false, .bool false] 68)) (.cells #[.bool false, .bool false, .bool false, .bool false] 68)
    simpa using this

set_option maxHeartbeats 4000000 in
set_option maxRecDepth 100000 in
theorem cornerAt_any (M : Array Value) (a b : Nat) (g : Nat → Nat) (x y : Int) (w : World) (hC : M = mat a b g) (ha : a ≤ 16) (hb : b ≤ 16) (hg : ∀ j, g j < 4294967296) (h1 : -90 ≤ x ∧ x ≤ 90) (h2 : -90 ≤ y ∧ y ≤ 90) (hR : RightP w) :
    Calls Tryd.prog 42 #[.agg M, .agg #[.int .i64 x, .int .i64 y]] w (fun e w' => e = .returned (.agg (crS (blackB a b g) x y 4)) ∧ Below w.heap.size w w') := by
  have CB := Lib.hid (fun X Y W => black_any M a b g X Y W hC ha hb hg)
  obtain ⟨p, hp⟩ : ∃ p, blackB a b g = p := ⟨_, rfl⟩
  rw [hp] at CB ⊢
  have CPl : Hid (∀ (c d : Int), -1 ≤ c → c ≤ 0 → -1 ≤ d → d ≤ 0 → ∀ W, Calls Tryd.prog 62 #[.agg #[.int .i64 x, .int .i64 y], .agg #[.int .i64 c, .int .i64 d]] W (fun e w' => e = .returned (.agg #[.int .i64 (x + c), .int .i64 (y + d)]) ∧ Below W.heap.size W w')) := fun c d c0 c1 d0 d1 W => plus_any x y c d W (by omega) (by omega) (by omega) (by omega)
  have hsz : M.size = 18 := by rw [hC]; rfl
  have HI : Hid ((Tryd.prog.info? 58).map (·.size) = some M.size) := by show _ = _; rw [hsz]; exact infoM
  have HRP : Hid (∀ W, Below w.heap.size w W → W.rangeAt 0 0 rpL) := fun W hb => (hR.below hb).1
  have HIR := Lib.hid infoRp
  have S0 := Lib.hid (CorS.start w M p x y)
  clear hp hC hg hsz hR
  go_enter Tryd.func42, Tryd.ntmps42
  go_wp2_with (refine wpList_load_mid rfl 99 _ rfl 0 0 rfl rpL _ (HRP.out _ S0.out.bel) Tryd.underlying99 rfl HIR.out ?_)
  go_loopw [10] (fun iv wr => ∃ i : Nat, i ≤ 4 ∧ iv = .int .i64 i ∧ Hid (CorS w wr M p x y i)) (fun iv _ => 4 - (intOf iv).toNat)
  case atStart => exact ⟨0, by omega, rfl, S0.out⟩
  case round =>
    clear S0
    obtain ⟨i, hi, rfl, HS⟩ := hrel
    have s0 : wr.cell? ⟨w.heap.size + 1, 0, none⟩ = some (.int .i64 x) := by rw [Joins.cell_of_block HS.out.s 0]; rfl
    have s1 : wr.cell? ⟨w.heap.size + 1, 1, none⟩ = some (.int .i64 y) := by rw [Joins.cell_of_block HS.out.s 1]; rfl
    have hls := (Array.getElem?_eq_some_iff.1 HS.out.s).1
    by_cases hlt : i < 4
    · have klt : (i : Int) < 4 := by omega
      have x0 := ixr0 wr
      have x1 := ixr1 wr
      have x2 := ixr2 wr
      have x3 := ixr3 wr
      have HAt : Hid (∀ W, CorS w W M p x y i → W.cell? ⟨w.heap.size + 1 + 1 + 1, i, none⟩ = some (.bool false)) := fun W h => by rw [Joins.cell_of_block h.c i]; exact crS_at p x y hlt
      have HFr : Hid (∀ W, CorS w W M p x y i → W.frozen? ⟨w.heap.size + 1 + 1 + 1, i, none⟩ = false) := fun W h => Joins.unfrozen_of_block h.c i
      have HSt : Hid (∀ W, CorS w W M p x y i → CorS w (W.setCell ⟨w.heap.size + 1 + 1 + 1, i, none⟩ (.bool (crV p x y i))) M p x y (i + 1)) := fun W h => h.set i _ (crS_set p x y hlt)
      rcases (by omega : i = 0 ∨ i = 1 ∨ i = 2 ∨ i = 3) with rfl | rfl | rfl | rfl
      all_goals (
        unfold rpL
        go_wp2_with fail
        refine (CPl.out _ _ ?_ ?_ ?_ ?_ _).mono ?_
        · decide
        · decide
        · decide
        · decide
        rintro e w2 ⟨rfl, hb2⟩
        have S2 := Lib.hid ((HS.out.below (Joins.below_alloc1 wr _)).below hb2)
        clear hb2 HS s0 s1 x0 x1 x2 x3
        have S3 := fun (o : Obj) => Lib.hid (S2.out.below (Joins.below_alloc1 w2 o))
        go_wp2_with (refine wpList_load_row rfl 58 _ rfl w.heap.size rfl 58 M (0, 0) _ (S3 _).out.m Tryd.underlying58 rfl HI.out ?_)
        refine (CB.out _ _ _).mono ?_
        rintro e w3 ⟨rfl, hb3⟩
        have S4 := Lib.hid ((S2.out.below (Joins.below_alloc1 w2 _)).below hb3)
        have cc := HAt.out _ S4.out
        have cf := HFr.out _ S4.out
        have S5 := Lib.hid (HSt.out _ S4.out)
        clear hb3 S3 S2
        go_wp2
        go_roundw
        case rel => exact ⟨_, by omega, by go_num, S5.out⟩
        case measure => simp [intOf])
    · obtain rfl : i = 4 := by omega
      have HI4 : Hid ((Tryd.prog.info? 68).map (·.size) = some (crS p x y 4).size) := infoCs
      have HO4 : Hid ((crS p x y 4).all (·.oneCell') = true) := crS_one p x y 4
      have HZ4 : Hid ((#[.bool false, .bool false, .bool false, .bool false] : Array Value).size = (crS p x y 4).size) := rfl
      obtain ⟨C4, hC4⟩ : ∃ C, crS p x y 4 = C := ⟨_, rfl⟩
      have hc4 := HS.out.c
      rw [hC4] at HI4 HO4 HZ4 hc4
      have HCe := Lib.hid hC4
      have HC4 := Lib.hid hc4
      have HRr := Lib.hid HS.out.r
      have HBl := Lib.hid HS.out.bel
      clear hC4 hc4 HS s0 s1
      go_wp2_with (first | (refine wpList_load_row rfl 68 _ rfl (w.heap.size + 1 + 1 + 1) rfl 68 C4 (0, 0) _ HC4.out Tryd.underlying68 rfl HI4.out ?_) | (refine wpList_store_row rfl 68 _ _ rfl (w.heap.size + 1 + 1) C4 rfl rfl 68 #[.bool false, .bool false, .bool false, .bool false] HRr.out HI4.out HZ4.out HO4.out ?_))
      exact bodyPost_ret (results_cell1 (p := 4) (ty := 68) Tryd.results42 _ _ (w.heap.size + 1 + 1) 68 C4 (0, 0) _ rfl (setRow_heap _ _ _ _ _ _ HRr.out) Tryd.underlying68 rfl HI4.out) rfl ⟨by rw [HCe.out], setRow_below HBl.out (by omega) _⟩
end Go.Proofs.YtaopdhncapoefaaDoor
