/- Contracts of single functions, and plain lemmas, on which the exact laws of this seat rest; each holds under the conditions that it states. -/
import Derived.Test.YtakaglbbcaplhaaDoorR3
namespace Go.Proofs.YtakaglbbcaplhaaDoor
set_option linter.unusedVariables false
set_option linter.unusedSimpArgs false
open Go.RowKit

/-- the table of the eight pixels around one -/
def rgL : List Value := [.int .i64 1, .int .i64 0, .int .i64 1, .int .i64 1, .int .i64 0, .int .i64 1, .int .i64 (-1), .int .i64 1, .int .i64 (-1), .int .i64 0, .int .i64 (-1), .int .i64 (-1), .int .i64 0, .int .i64 (-1), .int .i64 1, .int .i64 (-1)]
def RingP (w : World) : Prop := w.rangeAt 0 0 rgL ∧ 0 < w.heap.size
theorem RingP.below {w w' : World} (h : RingP w) (hb : Below w.heap.size w w') : RingP w' :=
  ⟨fun j v hv => (hb.cell (p := ⟨_, _, none⟩) h.2).trans (h.1 j v hv), Nat.lt_of_lt_of_le h.2 hb.size⟩
theorem infoRg : (Tryd.prog.info? 138).map (·.size) = some rgL.length := by kernel_rfl
/-- the eight pixels around x, y -/
def rgV (p : Int → Int → Bool) (x y : Int) : Nat → Bool
  | 0 => p (x + 1) y
  | 1 => p (x + 1) (y + 1)
  | 2 => p x (y + 1)
  | 3 => p (x + -1) (y + 1)
  | 4 => p (x + -1) y
  | 5 => p (x + -1) (y + -1)
  | 6 => p x (y + -1)
  | _ => p (x + 1) (y + -1)
/-- bits as a number -/
def rgN (f : Nat → Bool) : Nat → Nat
  | 0 => 0
  | k + 1 => rgN f k + (if f k = true then 2 ^ k else 0)
theorem rgN_lt (f : Nat → Bool) : ∀ k, rgN f k < 2 ^ k
  | 0 => by simp [rgN]
  | k + 1 => by
    have := rgN_lt f k
    simp only [rgN]
    have e : 2 ^ (k + 1) = 2 ^ k + 2 ^ k := by rw [Nat.pow_succ]; omega
    split <;> omega
theorem u8_or (W k : Nat) (hW : W < 2 ^ k) (hk : k < 8) : bits .or .u8 (W : Int) ((2 ^ k : Nat) : Int) = ((W + 2 ^ k : Nat) : Int) := by
  have h2 : 2 ^ k ≤ 2 ^ 7 := Nat.pow_le_pow_right (by omega) (by omega)
  rw [u8_or_nat W (2 ^ k) (by omega) (by omega)]
  have := Nat.two_pow_add_eq_or_of_lt hW 1
  rw [Nat.mul_one] at this
  rw [Nat.or_comm, ← this, Nat.add_comm]
structure RgS (w W : World) (M : Array Value) (x y : Int) : Prop where
  m : W.heap[w.heap.size]? = some (.cells M 73 (0, 0))
  s : W.heap[w.heap.size + 1]? = some (.cells #[.int .i64 x, .int .i64 y] 31 (0, 0))
  bel : Below w.heap.size w W
theorem RgS.below {w W W' : World} {M : Array Value} {x y : Int} (h : RgS w W M x y) (hb : Below W.heap.size W W') : RgS w W' M x y :=
  ⟨(hb.block _ (Array.getElem?_eq_some_iff.1 h.m).1).trans h.m, (hb.block _ (Array.getElem?_eq_some_iff.1 h.s).1).trans h.s, h.bel.trans (hb.mono h.bel.size)⟩
theorem RgS.start (w : World) (M : Array Value) (x y : Int) : RgS w ((w.alloc (.cells M 73)).alloc (.cells #[.int .i64 x, .int .i64 y] 31)) M x y :=
  ⟨by rw [Below.heap_alloc _ _ _ (by simp)]; exact heap_alloc_last w _, heap_alloc2_new _ _ _, Joins.below_alloc2 w _ _⟩
theorem ixg0 (w : World) : (Instr.index 138 (.agg #[.int .i64 1, .int .i64 0, .int .i64 1, .int .i64 1, .int .i64 0, .int .i64 1, .int .i64 (-1), .int .i64 1, .int .i64 (-1), .int .i64 0, .int .i64 (-1), .int .i64 (-1), .int .i64 0, .int .i64 (-1), .int .i64 1, .int .i64 (-1)]) (.int .i64 0)).run Tryd.prog w = .ok (.agg #[.int .i64 1, .int .i64 0]) w := by kernel_rfl
theorem ixg1 (w : World) : (Instr.index 138 (.agg #[.int .i64 1, .int .i64 0, .int .i64 1, .int .i64 1, .int .i64 0, .int .i64 1, .int .i64 (-1), .int .i64 1, .int .i64 (-1), .int .i64 0, .int .i64 (-1), .int .i64 (-1), .int .i64 0, .int .i64 (-1), .int .i64 1, .int .i64 (-1)]) (.int .i64 1)).run Tryd.prog w = .ok (.agg #[.int .i64 1, .int .i64 1]) w := by kernel_rfl
theorem ixg2 (w : World) : (Instr.index 138 (.agg #[.int .i64 1, .int .i64 0, .int .i64 1, .int .i64 1, .int .i64 0, .int .i64 1, .int .i64 (-1), .int .i64 1, .int .i64 (-1), .int .i64 0, .int .i64 (-1), .int .i64 (-1), .int .i64 0, .int .i64 (-1), .int .i64 1, .int .i64 (-1)]) (.int .i64 2)).run Tryd.prog w = .ok (.agg #[.int .i64 0, .int .i64 1]) w := by kernel_rfl
theorem ixg3 (w : World) : (Instr.index 138 (.agg #[.int .i64 1, .int .i64 0, .int .i64 1, .int .i64 1, .int .i64 0, .int .i64 1, .int .i64 (-1), .int .i64 1, .int .i64 (-1), .int .i64 0, .int .i64 (-1), .int .i64 (-1), .int .i64 0, .int .i64 (-1), .int .i64 1, .int .i64 (-1)]) (.int .i64 3)).run Tryd.prog w = .ok (.agg #[.int .i64 (-1), .int .i64 1]) w := by kernel_rfl
theorem ixg4 (w : World) : (Instr.index 138 (.agg #[.int .i64 1, .int .i64 0, .int .i64 1, .int .i64 1, .int .i64 0, .int .i64 1, .int .i64 (-1), .int .i64 1, .int .i64 (-1), .int .i64 0, .int .i64 (-1), .int .i64 (-1), .int .i64 0, .int .i64 (-1), .int .i64 1, .int .i64 (-1)]) (.int .i64 4)).run Tryd.prog w = .ok (.agg #[.int .i64 (-1), .int .i64 0]) w := by kernel_rfl
theorem ixg5 (w : World) : (Instr.index 138 (.agg #[.int .i64 1, .int .i64 0, .int .i64 1, .int .i64 1, .int .i64 0, .int .i64 1, .int .i64 (-1), .int .i64 1, .int .i64 (-1), .int .i64 0, .int .i64 (-1), .int .i64 (-1), .int .i64 0, .int .i64 (-1), .int .i64 1, .int .i64 (-1)]) (.int .i64 5)).run Tryd.prog w = .ok (.agg #[.int .i64 (-1), .int .i64 (-1)]) w := by kernel_rfl
theorem ixg6 (w : World) : (Instr.index 138 (.agg #[.int .i64 1, .int .i64 0, .int .i64 1, .int .i64 1, .int .i64 0, .int .i64 1, .int .i64 (-1), .int .i64 1, .int .i64 (-1), .int .i64 0, .int .i64 (-1), .int .i64 (-1), .int .i64 0, .int .i64 (-1), .int .i64 1, .int .i64 (-1)]) (.int .i64 6)).run Tryd.prog w = .ok (.agg #[.int .i64 0, .int .i64 (-1)]) w := by kernel_rfl
theorem ixg7 (w : World) : (Instr.index 138 (.agg #[.int .i64 1, .int .i64 0, .int .i64 1, .int .i64 1, .int .i64 0, .int .i64 1, .int .i64 (-1), .int .i64 1, .int .i64 (-1), .int .i64 0, .int .i64 (-1), .int .i64 (-1), .int .i64 0, .int .i64 (-1), .int .i64 1, .int .i64 (-1)]) (.int .i64 7)).run Tryd.prog w = .ok (.agg #[.int .i64 1, .int .i64 (-1)]) w := by kernel_rfl

set_option maxHeartbeats 8000000 in
set_option maxRecDepth 100000 in
theorem ringAt_any (M : Array Value) (a b : Nat) (g : Nat → Nat) (x y : Int) (w : World) (hC : M = mat a b g) (ha : a ≤ 16) (hb : b ≤ 16) (hg : ∀ j, g j < 4294967296) (h1 : -90 ≤ x ∧ x ≤ 90) (h2 : -90 ≤ y ∧ y ≤ 90) (hR : RingP w) :
    Calls Tryd.prog 59 #[.agg M, .agg #[.int .i64 x, .int .i64 y]] w (fun e w' => e = .returned (.int .u8 ((rgN (rgV (blackB a b g) x y) 8 : Nat) : Int)) ∧ Below w.heap.size w w') := by
  have CB := Lib.hid (fun X Y W => black_any M a b g X Y W hC ha hb hg)
  obtain ⟨p, hp⟩ : ∃ p, blackB a b g = p := ⟨_, rfl⟩
  rw [hp] at CB ⊢
  have CPl : Hid (∀ (c d : Int), -1 ≤ c → c ≤ 1 → -1 ≤ d → d ≤ 1 → ∀ W, Calls Tryd.prog 131 #[.agg #[.int .i64 x, .int .i64 y], .agg #[.int .i64 c, .int .i64 d]] W (fun e w' => e = .returned (.agg #[.int .i64 (x + c), .int .i64 (y + d)]) ∧ Below W.heap.size W w')) := fun c d c0 c1 d0 d1 W => plus_any x y c d W (by omega) (by omega) (by omega) (by omega)
  have hsz : M.size = 18 := by rw [hC]; rfl
  have HI : Hid ((Tryd.prog.info? 73).map (·.size) = some M.size) := by show _ = _; rw [hsz]; exact infoM
  have HRP : Hid (∀ W, Below w.heap.size w W → W.rangeAt 0 0 rgL) := fun W hb => (hR.below hb).1
  have HIR := Lib.hid infoRg
  have S0 := Lib.hid (RgS.start w M x y)
  clear hp hC hg hsz hR
  go_enter Tryd.func59, Tryd.ntmps59
  go_wp2_with (refine wpList_load_mid rfl 138 _ rfl 0 0 rfl rgL _ (HRP.out _ S0.out.bel) Tryd.underlying138 rfl HIR.out ?_)
  go_loopw [5, 10] (fun rv iv wr => ∃ i : Nat, i ≤ 8 ∧ iv = .int .i64 i ∧ rv = .int .u8 ((rgN (rgV p x y) i : Nat) : Int) ∧ Hid (RgS w wr M x y)) (fun _ iv _ => 8 - (intOf iv).toNat)
  case atStart => exact ⟨0, by omega, rfl, rfl, S0.out⟩
  case round =>
    clear S0
    obtain ⟨i, hi, rfl, rfl, HS⟩ := hrel
    have s0 : wr.cell? ⟨w.heap.size + 1, 0, none⟩ = some (.int .i64 x) := by rw [Joins.cell_of_block HS.out.s 0]; rfl
    have s1 : wr.cell? ⟨w.heap.size + 1, 1, none⟩ = some (.int .i64 y) := by rw [Joins.cell_of_block HS.out.s 1]; rfl
    have hls := (Array.getElem?_eq_some_iff.1 HS.out.s).1
    by_cases hlt : i < 8
    · have klt : (i : Int) < 8 := by omega
      rcases (by omega : i = 0 ∨ i = 1 ∨ i = 2 ∨ i = 3 ∨ i = 4 ∨ i = 5 ∨ i = 6 ∨ i = 7) with rfl | rfl | rfl | rfl | rfl | rfl | rfl | rfl
      · have x0 := ixg0 wr
        have hr := rgN_lt (rgV p x y) 0
        have hor := u8_or (rgN (rgV p x y) 0) 0 hr (by omega)
        have HNx : Hid (rgN (rgV p x y) 1 = rgN (rgV p x y) 0 + (if rgV p x y 0 = true then 2 ^ 0 else 0)) := rfl
        obtain ⟨q, hq⟩ : ∃ q, rgN (rgV p x y) 0 = q := ⟨_, rfl⟩
        rw [hq] at hr hor HNx ⊢
        simp only [Nat.reducePow] at hr hor HNx
        have hor' : bits .or .u8 (q : Int) 1 = (q : Int) + 1 := by simpa using hor
        clear hq hor
        unfold rgL
        go_wp2_with fail
        refine (CPl.out _ _ ?_ ?_ ?_ ?_ _).mono ?_
        · decide
        · decide
        · decide
        · decide
        rintro e w2 ⟨rfl, hb2⟩
        have S2 := Lib.hid ((HS.out.below (Joins.below_alloc1 wr _)).below hb2)
        clear hb2 HS s0 s1 x0
        have S3 := fun (o : Obj) => Lib.hid (S2.out.below (Joins.below_alloc1 w2 o))
        go_wp2_with (refine wpList_load_row rfl 73 _ rfl w.heap.size rfl 73 M (0, 0) _ (S3 _).out.m Tryd.underlying73 rfl HI.out ?_)
        refine (CB.out _ _ _).mono ?_
        rintro e w3 ⟨rfl, hb3⟩
        have S4 := Lib.hid ((S2.out.below (Joins.below_alloc1 w2 _)).below hb3)
        clear hb3 S3 S2
        rcases Bool.eq_false_or_eq_true (rgV p x y 0) with hv | hv
        · have hv' : p (x + 1) y = true := hv
          have HN' : Hid (((rgN (rgV p x y) 1 : Nat) : Int) = (q : Int) + 1) := by show _ = _; rw [HNx.out, if_pos hv]; rfl
          rw [hv']
          clear HNx hv hv'
          go_wp2
          go_roundw
          case rel => exact ⟨1, by omega, by go_num, by rw [HN'.out], S4.out⟩
          case measure => simp [intOf]
        · have hv' : p (x + 1) y = false := hv
          have HN' : Hid (((rgN (rgV p x y) 1 : Nat) : Int) = (q : Int)) := by show _ = _; rw [HNx.out, if_neg (by rw [hv]; decide)]; rfl
          rw [hv']
          clear HNx hv hv'
          go_wp2
          go_roundw
          case rel => exact ⟨1, by omega, by go_num, by rw [HN'.out], S4.out⟩
          case measure => simp [intOf]
      · have x0 := ixg1 wr
        have hr := rgN_lt (rgV p x y) 1
        have hor := u8_or (rgN (rgV p x y) 1) 1 hr (by omega)
        have HNx : Hid (rgN (rgV p x y) 2 = rgN (rgV p x y) 1 + (if rgV p x y 1 = true then 2 ^ 1 else 0)) := rfl
        obtain ⟨q, hq⟩ : ∃ q, rgN (rgV p x y) 1 = q := ⟨_, rfl⟩
        rw [hq] at hr hor HNx ⊢
        simp only [Nat.reducePow] at hr hor HNx
        have hor' : bits .or .u8 (q : Int) 2 = (q : Int) + 2 := by simpa using hor
        clear hq hor
        unfold rgL
        go_wp2_with fail
        refine (CPl.out _ _ ?_ ?_ ?_ ?_ _).mono ?_
        · decide
        · decide
        · decide
        · decide
        rintro e w2 ⟨rfl, hb2⟩
        have S2 := Lib.hid ((HS.out.below (Joins.below_alloc1 wr _)).below hb2)
        clear hb2 HS s0 s1 x0
        have S3 := fun (o : Obj) => Lib.hid (S2.out.below (Joins.below_alloc1 w2 o))
        go_wp2_with (refine wpList_load_row rfl 73 _ rfl w.heap.size rfl 73 M (0, 0) _ (S3 _).out.m Tryd.underlying73 rfl HI.out ?_)
        refine (CB.out _ _ _).mono ?_
        rintro e w3 ⟨rfl, hb3⟩
        have S4 := Lib.hid ((S2.out.below (Joins.below_alloc1 w2 _)).below hb3)
        clear hb3 S3 S2
        rcases Bool.eq_false_or_eq_true (rgV p x y 1) with hv | hv
        · have hv' : p (x + 1) (y + 1) = true := hv
          have HN' : Hid (((rgN (rgV p x y) 2 : Nat) : Int) = (q : Int) + 2) := by show _ = _; rw [HNx.out, if_pos hv]; rfl
          rw [hv']
          clear HNx hv hv'
          go_wp2
          go_roundw
          case rel => exact ⟨2, by omega, by go_num, by rw [HN'.out], S4.out⟩
          case measure => simp [intOf]
        · have hv' : p (x + 1) (y + 1) = false := hv
          have HN' : Hid (((rgN (rgV p x y) 2 : Nat) : Int) = (q : Int)) := by show _ = _; rw [HNx.out, if_neg (by rw [hv]; decide)]; rfl
          rw [hv']
          clear HNx hv hv'
          go_wp2
          go_roundw
          case rel => exact ⟨2, by omega, by go_num, by rw [HN'.out], S4.out⟩
          case measure => simp [intOf]
      · have x0 := ixg2 wr
        have hr := rgN_lt (rgV p x y) 2
        have hor := u8_or (rgN (rgV p x y) 2) 2 hr (by omega)
        have HNx : Hid (rgN (rgV p x y) 3 = rgN (rgV p x y) 2 + (if rgV p x y 2 = true then 2 ^ 2 else 0)) := rfl
        obtain ⟨q, hq⟩ : ∃ q, rgN (rgV p x y) 2 = q := ⟨_, rfl⟩
        rw [hq] at hr hor HNx ⊢
        simp only [Nat.reducePow] at hr hor HNx
        have hor' : bits .or .u8 (q : Int) 4 = (q : Int) + 4 := by simpa using hor
        clear hq hor
        unfold rgL
        go_wp2_with fail
        refine (CPl.out _ _ ?_ ?_ ?_ ?_ _).mono ?_
        · decide
        · decide
        · decide
        · decide
        rintro e w2 ⟨rfl, hb2⟩
        have S2 := Lib.hid ((HS.out.below (Joins.below_alloc1 wr _)).below hb2)
        clear hb2 HS s0 s1 x0
        have S3 := fun (o : Obj) => Lib.hid (S2.out.below (Joins.below_alloc1 w2 o))
        go_wp2_with (refine wpList_load_row rfl 73 _ rfl w.heap.size rfl 73 M (0, 0) _ (S3 _).out.m Tryd.underlying73 rfl HI.out ?_)
        refine (CB.out _ _ _).mono ?_
        rintro e w3 ⟨rfl, hb3⟩
        have S4 := Lib.hid ((S2.out.below (Joins.below_alloc1 w2 _)).below hb3)
        clear hb3 S3 S2
        rcases Bool.eq_false_or_eq_true (rgV p x y 2) with hv | hv
        · have hv' : p x (y + 1) = true := hv
          have HN' : Hid (((rgN (rgV p x y) 3 : Nat) : Int) = (q : Int) + 4) := by show _ = _; rw [HNx.out, if_pos hv]; rfl
          rw [hv']
          clear HNx hv hv'
          go_wp2
          go_roundw
          case rel => exact ⟨3, by omega, by go_num, by rw [HN'.out], S4.out⟩
          case measure => simp [intOf]
        · have hv' : p x (y + 1) = false := hv
          have HN' : Hid (((rgN (rgV p x y) 3 : Nat) : Int) = (q : Int)) := by show _ = _; rw [HNx.out, if_neg (by rw [hv]; decide)]; rfl
          rw [hv']
          clear HNx hv hv'
          go_wp2
          go_roundw
          case rel => exact ⟨3, by omega, by go_num, by rw [HN'.out], S4.out⟩
          case measure => simp [intOf]
      · have x0 := ixg3 wr
        have hr := rgN_lt (rgV p x y) 3
        have hor := u8_or (rgN (rgV p x y) 3) 3 hr (by omega)
        have HNx : Hid (rgN (rgV p x y) 4 = rgN (rgV p x y) 3 + (if rgV p x y 3 = true then 2 ^ 3 else 0)) := rfl
        obtain ⟨q, hq⟩ : ∃ q, rgN (rgV p x y) 3 = q := ⟨_, rfl⟩
        rw [hq] at hr hor HNx ⊢
        simp only [Nat.reducePow] at hr hor HNx
        have hor' : bits .or .u8 (q : Int) 8 = (q : Int) + 8 := by simpa using hor
        clear hq hor
        unfold rgL
        go_wp2_with fail
        refine (CPl.out _ _ ?_ ?_ ?_ ?_ _).mono ?_
        · decide
        · decide
        · decide
        · decide
        rintro e w2 ⟨rfl, hb2⟩
        have S2 := Lib.hid ((HS.out.below (Joins.below_alloc1 wr _)).below hb2)
        clear hb2 HS s0 s1 x0
        have S3 := fun (o : Obj) => Lib.hid (S2.out.below (Joins.below_alloc1 w2 o))
        go_wp2_with (refine wpList_load_row rfl 73 _ rfl w.heap.size rfl 73 M (0, 0) _ (S3 _).out.m Tryd.underlying73 rfl HI.out ?_)
        refine (CB.out _ _ _).mono ?_
        rintro e w3 ⟨rfl, hb3⟩
        have S4 := Lib.hid ((S2.out.below (Joins.below_alloc1 w2 _)).below hb3)
        clear hb3 S3 S2
        rcases Bool.eq_false_or_eq_true (rgV p x y 3) with hv | hv
        · have hv' : p (x + -1) (y + 1) = true := hv
          have HN' : Hid (((rgN (rgV p x y) 4 : Nat) : Int) = (q : Int) + 8) := by show _ = _; rw [HNx.out, if_pos hv]; rfl
          rw [hv']
          clear HNx hv hv'
          go_wp2
          go_roundw
          case rel => exact ⟨4, by omega, by go_num, by rw [HN'.out], S4.out⟩
          case measure => simp [intOf]
        · have hv' : p (x + -1) (y + 1) = false := hv
          have HN' : Hid (((rgN (rgV p x y) 4 : Nat) : Int) = (q : Int)) := by show _ = _; rw [HNx.out, if_neg (by rw [hv]; decide)]; rfl
          rw [hv']
          clear HNx hv hv'
          go_wp2
          go_roundw
          case rel => exact ⟨4, by omega, by go_num, by rw [HN'.out], S4.out⟩
          case measure => simp [intOf]
      · have x0 := ixg4 wr
        have hr := rgN_lt (rgV p x y) 4
        have hor := u8_or (rgN (rgV p x y) 4) 4 hr (by omega)
        have HNx : Hid (rgN (rgV p x y) 5 = rgN (rgV p x y) 4 + (if rgV p x y 4 = true then 2 ^ 4 else 0)) := rfl
        obtain ⟨q, hq⟩ : ∃ q, rgN (rgV p x y) 4 = q := ⟨_, rfl⟩
        rw [hq] at hr hor HNx ⊢
        simp only [Nat.reducePow] at hr hor HNx
        have hor' : bits .or .u8 (q : Int) 16 = (q : Int) + 16 := by simpa using hor
        clear hq hor
        unfold rgL
        go_wp2_with fail
        refine (CPl.out _ _ ?_ ?_ ?_ ?_ _).mono ?_
        · decide
        · decide
        · decide
        · decide
        rintro e w2 ⟨rfl, hb2⟩
        have S2 := Lib.hid ((HS.out.below (Joins.below_alloc1 wr _)).below hb2)
        clear hb2 HS s0 s1 x0
        have S3 := fun (o : Obj) => Lib.hid (S2.out.below (Joins.below_alloc1 w2 o))
        go_wp2_with (refine wpList_load_row rfl 73 _ rfl w.heap.size rfl 73 M (0, 0) _ (S3 _).out.m Tryd.underlying73 rfl HI.out ?_)
        refine (CB.out _ _ _).mono ?_
        rintro e w3 ⟨rfl, hb3⟩
        have S4 := Lib.hid ((S2.out.below (Joins.below_alloc1 w2 _)).below hb3)
        clear hb3 S3 S2
        rcases Bool.eq_false_or_eq_true (rgV p x y 4) with hv | hv
        · have hv' : p (x + -1) y = true := hv
          have HN' : Hid (((rgN (rgV p x y) 5 : Nat) : Int) = (q : Int) + 16) := by show _ = _; rw [HNx.out, if_pos hv]; rfl
          rw [hv']
          clear HNx hv hv'
          go_wp2
          go_roundw
          case rel => exact ⟨5, by omega, by go_num, by rw [HN'.out], S4.out⟩
          case measure => simp [intOf]
        · have hv' : p (x + -1) y = false := hv
          have HN' : Hid (((rgN (rgV p x y) 5 : Nat) : Int) = (q : Int)) := by show _ = _; rw [HNx.out, if_neg (by rw [hv]; decide)]; rfl
          rw [hv']
          clear HNx hv hv'
          go_wp2
          go_roundw
          case rel => exact ⟨5, by omega, by go_num, by rw [HN'.out], S4.out⟩
          case measure => simp [intOf]
      · have x0 := ixg5 wr
        have hr := rgN_lt (rgV p x y) 5
        have hor := u8_or (rgN (rgV p x y) 5) 5 hr (by omega)
        have HNx : Hid (rgN (rgV p x y) 6 = rgN (rgV p x y) 5 + (if rgV p x y 5 = true then 2 ^ 5 else 0)) := rfl
        obtain ⟨q, hq⟩ : ∃ q, rgN (rgV p x y) 5 = q := ⟨_, rfl⟩
        rw [hq] at hr hor HNx ⊢
        simp only [Nat.reducePow] at hr hor HNx
        have hor' : bits .or .u8 (q : Int) 32 = (q : Int) + 32 := by simpa using hor
        clear hq hor
        unfold rgL
        go_wp2_with fail
        refine (CPl.out _ _ ?_ ?_ ?_ ?_ _).mono ?_
        · decide
        · decide
        · decide
        · decide
        rintro e w2 ⟨rfl, hb2⟩
        have S2 := Lib.hid ((HS.out.below (Joins.below_alloc1 wr _)).below hb2)
        clear hb2 HS s0 s1 x0
        have S3 := fun (o : Obj) => Lib.hid (S2.out.below (Joins.below_alloc1 w2 o))
        go_wp2_with (refine wpList_load_row rfl 73 _ rfl w.heap.size rfl 73 M (0, 0) _ (S3 _).out.m Tryd.underlying73 rfl HI.out ?_)
        refine (CB.out _ _ _).mono ?_
        rintro e w3 ⟨rfl, hb3⟩
        have S4 := Lib.hid ((S2.out.below (Joins.below_alloc1 w2 _)).below hb3)
        clear hb3 S3 S2
        rcases Bool.eq_false_or_eq_true (rgV p x y 5) with hv | hv
        · have hv' : p (x + -1) (y + -1) = true := hv
          have HN' : Hid (((rgN (rgV p x y) 6 : Nat) : Int) = (q : Int) + 32) := by show _ = _; rw [HNx.out, if_pos hv]; rfl
          rw [hv']
          clear HNx hv hv'
          go_wp2
          go_roundw
          case rel => exact ⟨6, by omega, by go_num, by rw [HN'.out], S4.out⟩
          case measure => simp [intOf]
        · have hv' : p (x + -1) (y + -1) = false := hv
          have HN' : Hid (((rgN (rgV p x y) 6 : Nat) : Int) = (q : Int)) := by show _ = _; rw [HNx.out, if_neg (by rw [hv]; decide)]; rfl
          rw [hv']
          clear HNx hv hv'
          go_wp2
          go_roundw
          case rel => exact ⟨6, by omega, by go_num, by rw [HN'.out], S4.out⟩
          case measure => simp [intOf]
      · have x0 := ixg6 wr
        have hr := rgN_lt (rgV p x y) 6
        have hor := u8_or (rgN (rgV p x y) 6) 6 hr (by omega)
        have HNx : Hid (rgN (rgV p x y) 7 = rgN (rgV p x y) 6 + (if rgV p x y 6 = true then 2 ^ 6 else 0)) := rfl
        obtain ⟨q, hq⟩ : ∃ q, rgN (rgV p x y) 6 = q := ⟨_, rfl⟩
        rw [hq] at hr hor HNx ⊢
        simp only [Nat.reducePow] at hr hor HNx
        have hor' : bits .or .u8 (q : Int) 64 = (q : Int) + 64 := by simpa using hor
        clear hq hor
        unfold rgL
        go_wp2_with fail
        refine (CPl.out _ _ ?_ ?_ ?_ ?_ _).mono ?_
        · decide
        · decide
        · decide
        · decide
        rintro e w2 ⟨rfl, hb2⟩
        have S2 := Lib.hid ((HS.out.below (Joins.below_alloc1 wr _)).below hb2)
        clear hb2 HS s0 s1 x0
        have S3 := fun (o : Obj) => Lib.hid (S2.out.below (Joins.below_alloc1 w2 o))
        go_wp2_with (refine wpList_load_row rfl 73 _ rfl w.heap.size rfl 73 M (0, 0) _ (S3 _).out.m Tryd.underlying73 rfl HI.out ?_)
        refine (CB.out _ _ _).mono ?_
        rintro e w3 ⟨rfl, hb3⟩
        have S4 := Lib.hid ((S2.out.below (Joins.below_alloc1 w2 _)).below hb3)
        clear hb3 S3 S2
        rcases Bool.eq_false_or_eq_true (rgV p x y 6) with hv | hv
        · have hv' : p x (y + -1) = true := hv
          have HN' : Hid (((rgN (rgV p x y) 7 : Nat) : Int) = (q : Int) + 64) := by show _ = _; rw [HNx.out, if_pos hv]; rfl
          rw [hv']
          clear HNx hv hv'
          go_wp2
          go_roundw
          case rel => exact ⟨7, by omega, by go_num, by rw [HN'.out], S4.out⟩
          case measure => simp [intOf]
        · have hv' : p x (y + -1) = false := hv
          have HN' : Hid (((rgN (rgV p x y) 7 : Nat) : Int) = (q : Int)) := by show _ = _; rw [HNx.out, if_neg (by rw [hv]; decide)]; rfl
          rw [hv']
          clear HNx hv hv'
          go_wp2
          go_roundw
          case rel => exact ⟨7, by omega, by go_num, by rw [HN'.out], S4.out⟩
          case measure => simp [intOf]
      · have x0 := ixg7 wr
        have hr := rgN_lt (rgV p x y) 7
        have hor := u8_or (rgN (rgV p x y) 7) 7 hr (by omega)
        have HNx : Hid (rgN (rgV p x y) 8 = rgN (rgV p x y) 7 + (if rgV p x y 7 = true then 2 ^ 7 else 0)) := rfl
        obtain ⟨q, hq⟩ : ∃ q, rgN (rgV p x y) 7 = q := ⟨_, rfl⟩
        rw [hq] at hr hor HNx ⊢
        simp only [Nat.reducePow] at hr hor HNx
        have hor' : bits .or .u8 (q : Int) 128 = (q : Int) + 128 := by simpa using hor
        clear hq hor
        unfold rgL
        go_wp2_with fail
        refine (CPl.out _ _ ?_ ?_ ?_ ?_ _).mono ?_
        · decide
        · decide
        · decide
        · decide
        rintro e w2 ⟨rfl, hb2⟩
        have S2 := Lib.hid ((HS.out.below (Joins.below_alloc1 wr _)).below hb2)
        clear hb2 HS s0 s1 x0
        have S3 := fun (o : Obj) => Lib.hid (S2.out.below (Joins.below_alloc1 w2 o))
        go_wp2_with (refine wpList_load_row rfl 73 _ rfl w.heap.size rfl 73 M (0, 0) _ (S3 _).out.m Tryd.underlying73 rfl HI.out ?_)
        refine (CB.out _ _ _).mono ?_
        rintro e w3 ⟨rfl, hb3⟩
        have S4 := Lib.hid ((S2.out.below (Joins.below_alloc1 w2 _)).below hb3)
        clear hb3 S3 S2
        rcases Bool.eq_false_or_eq_true (rgV p x y 7) with hv | hv
        · have hv' : p (x + 1) (y + -1) = true := hv
          have HN' : Hid (((rgN (rgV p x y) 8 : Nat) : Int) = (q : Int) + 128) := by show _ = _; rw [HNx.out, if_pos hv]; rfl
          rw [hv']
          clear HNx hv hv'
          go_wp2
          go_roundw
          case rel => exact ⟨8, by omega, by go_num, by rw [HN'.out], S4.out⟩
          case measure => simp [intOf]
        · have hv' : p (x + 1) (y + -1) = false := hv
          have HN' : Hid (((rgN (rgV p x y) 8 : Nat) : Int) = (q : Int)) := by show _ = _; rw [HNx.out, if_neg (by rw [hv]; decide)]; rfl
          rw [hv']
          clear HNx hv hv'
          go_wp2
          go_roundw
          case rel => exact ⟨8, by omega, by go_num, by rw [HN'.out], S4.out⟩
          case measure => simp [intOf]
    · obtain rfl : i = 8 := by omega
      have HBl := Lib.hid HS.out.bel
      clear HS
      go_wp2
      go_ret
      exact ⟨rfl, HBl.out⟩
end Go.Proofs.YtakaglbbcaplhaaDoor
