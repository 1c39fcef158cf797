/- Contracts of single functions, and plain lemmas, on which the exact laws of this seat rest; each holds under the conditions that it states. -/
import Derived.Test.YtnmnlbgialolhaaDoorGD
import Derived.Test.YtnmnlbgialolhaaDoorSb
import Derived.Test.YtnmnlbgialolhaaDoorPb
import Derived.RegionTactic
import Derived.ChangeAlike
import Derived.BigRegion
import Derived.Test.YtnmnlbgialolhaaDoorGE
import Derived.Test.YtnmnlbgialolhaaDoorMo
import Derived.Test.YtnmnlbgialolhaaDoorL1
import Derived.BigQuiet
import Derived.Deep.QuietTactic
import Derived.Test.YtnmnlbgialolhaaDoorS2
namespace Go.Proofs.YtnmnlbgialolhaaDoor
set_option linter.unusedVariables false
set_option linter.unusedSimpArgs false
open Go.RowKit

/-! ### the numbers of a grey picture as one list -/
def flG (gs : List (List Int)) : Nat → List Int
  | 0 => []
  | k + 1 => flG gs k ++ rowF gs k
theorem flG_len {m : Int} {gs : List (List Int)} (V : VG m gs) : ∀ k, k ≤ gs.length → (flG gs k).length = k * (rowF gs 0).length
  | 0, _ => by simp [flG]
  | k + 1, h => by
    have h1 := V.len k (by omega)
    rw [flG, List.length_append, flG_len V k (by omega), h1, Nat.add_mul, Nat.one_mul]
theorem flG_at {m : Int} {gs : List (List Int)} (V : VG m gs) (y x : Nat) (hx : x < (rowF gs 0).length) : ∀ k, k ≤ gs.length → y < k → (flG gs k).getD (y * (rowF gs 0).length + x) 0 = (rowF gs y).getD x 0
  | 0, _, h => absurd h (Nat.not_lt_zero _)
  | k + 1, hk, h => by
    have hl := flG_len V k (by omega)
    have h1 := V.len k (by omega)
    rw [flG, List.getD_eq_getElem?_getD, List.getElem?_append, hl]
    by_cases e : y < k
    · have : (y + 1) * (rowF gs 0).length ≤ k * (rowF gs 0).length := Nat.mul_le_mul e (Nat.le_refl _)
      rw [Nat.add_mul, Nat.one_mul] at this
      rw [if_pos (by omega), ← List.getD_eq_getElem?_getD]
      exact flG_at V y x hx k (by omega) e
    · obtain rfl : y = k := by omega
      rw [if_neg (by omega), Nat.add_sub_cancel_left, ← List.getD_eq_getElem?_getD]

end Go.Proofs.YtnmnlbgialolhaaDoor

/- Contracts of single functions, and plain lemmas, on which the exact laws of this seat rest; each holds under the conditions that it states. -/
namespace Go.Proofs.YtnmnlbgialolhaaDoor
set_option linter.unusedVariables false
set_option linter.unusedSimpArgs false
open Go.RowKit

/-! ### the picture of what is at least a level -/
def thF (gs : List (List Int)) (lv : Int) (y x : Nat) : Bool := decide (lv ≤ (rowF gs y).getD x 0)
/-- the first k numbers that are at least a level -/
def thB (L : List Int) (lv : Int) (k : Nat) : List Bool := (List.range k).map fun j => decide (lv ≤ L.getD j 0)
theorem thB_len (L : List Int) (lv : Int) (k : Nat) : (thB L lv k).length = k := by simp [thB]
theorem thB_snoc (L : List Int) (lv : Int) (k : Nat) : boolV (thB L lv (k + 1)) = boolV (thB L lv k) ++ [.bool (decide (lv ≤ L.getD k 0))] := by
  simp [thB, boolV, List.range_succ]
theorem thB_pic {m : Int} {gs : List (List Int)} (V : VG m gs) (lv : Int) : mkPic (rowF gs 0).length gs.length (fun y x => (thB (flG gs gs.length) lv ((rowF gs 0).length * gs.length)).getD (y * (rowF gs 0).length + x) false) = mkPic (rowF gs 0).length gs.length (thF gs lv) :=
  mkPic_congr fun y hy x hx => by
    have : (y + 1) * (rowF gs 0).length ≤ gs.length * (rowF gs 0).length := Nat.mul_le_mul hy (Nat.le_refl _)
    rw [Nat.add_mul, Nat.one_mul, Nat.mul_comm gs.length] at this
    have hlt : y * (rowF gs 0).length + x < (rowF gs 0).length * gs.length := by omega
    rw [List.getD_eq_getElem?_getD]
    unfold thB thF
    rw [List.getElem?_map, List.getElem?_range hlt]
    show decide (lv ≤ (flG gs gs.length).getD (y * (rowF gs 0).length + x) 0) = _
    rw [flG_at V y x hx gs.length (Nat.le_refl _) hy]
theorem own_ne2 {w : World} {base n : Nat} {e t : TypeId} {s P : Nat} {v : Value} {xs : List Value} {cs : Array Value} {o : Nat × Nat} (h : w.ownsRow base e s v n xs) (hP : w.heap[P]? = some (.cells cs t o)) (he : t ≠ e) : v.ownBlock ≠ some P := by
  rcases h.2 with ⟨hv, _⟩ | ⟨g, cap, cur, hv, _, hg, _⟩
  · subst hv; simp [Value.ownBlock]
  · subst hv
    simp only [Value.ownBlock]
    intro e1
    have e1 := Option.some.inj e1
    subst e1
    rw [hg] at hP
    injection hP with hP
    injection hP with _ h2
    exact he h2.symm
/-- a row of numbers, by its block alone -/
theorem OwnN.blk {w : World} {base g cap : Nat} {ns : List Int} (h : OwnN w base (.slice (some ⟨g, 0, none⟩) ns.length cap) ns) : ∃ (cur : Array Value) (o : Nat × Nat), w.heap[g]? = some (.cells cur 2 o) ∧ ∀ j, j < ns.length → cur[j]? = some (.int .i64 (ns.getD j 0)) := by
  have hcell : ∀ j, j < ns.length → w.cell? ⟨g, j, none⟩ = some (.int .i64 (ns.getD j 0)) := fun j hj => by
    have := World.ownsRow.cellAt (h : w.ownsRow base 2 1 _ ns.length (numsV ns)) j (by omega)
    rw [this]
    unfold numsV
    rw [List.getElem?_map, List.getElem?_eq_getElem hj, List.getD_eq_getElem?_getD, List.getElem?_eq_getElem hj]
    rfl
  rcases h.2 with ⟨hv, _⟩ | ⟨g2, cap2, cur, hv, _, hg, _⟩
  · cases hv
  · injection hv with hv
    obtain rfl : g = g2 := by injection hv with hv; injection hv
    refine ⟨cur, _, hg, fun j hj => ?_⟩
    have := hcell j hj
    rw [Joins.cell_of_block hg j] at this
    exact this

end Go.Proofs.YtnmnlbgialolhaaDoor

/- Contracts of single functions, and plain lemmas, on which the exact laws of this seat rest; each holds under the conditions that it states. -/
namespace Go.Proofs.YtnmnlbgialolhaaDoor
set_option linter.unusedVariables false
open Go.RowKit

/-! ### set: a bit of a word -/
def clrW (W p : Nat) : Nat := W &&& (4294967295 - 2 ^ p)
def updW (W p : Nat) (bk : Bool) : Nat := if bk then clrW W p ||| 2 ^ p else clrW W p
theorem shl_mod (p : Nat) (hp : p < 16) : ((2 : Int) ^ p % 4294967296) = ((2 ^ p : Nat) : Int) := by
  have h : 2 ^ p ≤ 2 ^ 15 := Nat.pow_le_pow_right (by omega) (by omega)
  have e : ((2 : Int) ^ p) = ((2 ^ p : Nat) : Int) := by push_cast; rfl
  rw [e]
  obtain ⟨K, hK⟩ : ∃ K, 2 ^ p = K := ⟨_, rfl⟩
  rw [hK] at h ⊢
  omega
theorem clr_bits (W p : Nat) (hW : W < 4294967296) (hp : p < 16) : bits .andNot .u32 (W : Int) ((2 : Int) ^ p % 4294967296) = ((clrW W p : Nat) : Int) := by
  have h : 2 ^ p ≤ 2 ^ 15 := Nat.pow_le_pow_right (by omega) (by omega)
  rw [shl_mod p hp, u32_andNot_nat W (2 ^ p) hW (by omega)]
  rfl
theorem clr_lt (W p : Nat) (hW : W < 4294967296) : clrW W p < 4294967296 := Nat.lt_of_le_of_lt Nat.and_le_left hW
theorem or_bits (W p : Nat) (hW : W < 4294967296) (hp : p < 16) : bits .or .u32 (W : Int) ((2 : Int) ^ p % 4294967296) = ((W ||| 2 ^ p : Nat) : Int) := by
  have h : 2 ^ p ≤ 2 ^ 15 := Nat.pow_le_pow_right (by omega) (by omega)
  rw [shl_mod p hp, u32_or_nat W (2 ^ p) hW (by omega)]
theorem upd_lt (W p : Nat) (bk : Bool) (hW : W < 4294967296) (hp : p < 16) : updW W p bk < 4294967296 := by
  have h : 2 ^ p ≤ 2 ^ 15 := Nat.pow_le_pow_right (by omega) (by omega)
  have h1 := clr_lt W p hW
  unfold updW
  split
  · exact Nat.or_lt_two_pow (n := 32) h1 (by omega)
  · exact h1
theorem clr_bit (W p i : Nat) (hp : p < 16) (hi : i < 16) : (clrW W p).testBit i = (W.testBit i && !decide (i = p)) := by
  unfold clrW
  rw [Nat.testBit_and]
  congr 1
  have e : (4294967295 - 2 ^ p) = 2 ^ 32 - (2 ^ p + 1) := by omega
  have h : 2 ^ p ≤ 2 ^ 15 := Nat.pow_le_pow_right (by omega) (by omega)
  rw [e, Nat.testBit_two_pow_sub_succ (by omega), Nat.testBit_two_pow, decide_eq_true (show i < 32 by omega), Bool.true_and, decide_eq_decide.2 (show p = i ↔ i = p from eq_comm)]
theorem upd_bit (W p i : Nat) (bk : Bool) (hp : p < 16) (hi : i < 16) : (updW W p bk).testBit i = if i = p then bk else W.testBit i := by
  unfold updW
  cases bk with
  | true =>
    simp only [if_true, Nat.testBit_or, clr_bit W p i hp hi, Nat.testBit_two_pow]
    by_cases h : i = p
    · subst h; simp
    · simp [h, show ¬ p = i from fun e => h e.symm]
  | false =>
    simp only [Bool.false_eq_true, if_false, clr_bit W p i hp hi]
    by_cases h : i = p <;> simp [h]

def updG (g : Nat → Nat) (q p : Nat) (bk : Bool) (j : Nat) : Nat := if j = q then updW (g q) p bk else g j

theorem mat_set (a b : Nat) (g : Nat → Nat) (q : Nat) (hq : q < 16) (x : Nat) : (mat a b g).setIfInBounds (2 + q) (.int .u32 x) = mat a b (fun j => if j = q then x else g j) := by
  unfold mat
  rw [mcells_set _ _ _ q hq]
  congr 1
  funext j
  show _ = ((if j = q then x else g j : Nat) : Int)
  split <;> rfl

def Setted (w : World) (mb a b : Nat) (g : Nat → Nat) (q p : Nat) (bk : Bool) (e : Ending) (w' : World) : Prop :=
  e = .returned (.tuple #[]) ∧ w'.heap[mb]? = some (.cells (mat a b (updG g q p bk)) 63 (0, 0)) ∧ Below mb w w'

set_option maxHeartbeats 2000000 in
set_option maxRecDepth 100000 in
theorem set_any (mb a b : Nat) (g : Nat → Nat) (p q : Nat) (bk : Bool) (w : World) (hm : w.heap[mb]? = some (.cells (mat a b g) 63 (0, 0))) (hp : p < 16) (hq : q < 16) (hg : g q < 4294967296) :
    Calls Tryd.prog 75 #[.pointer (some ⟨mb, 0, none⟩), .int .i64 p, .int .i64 q, .bool bk] w (Setted w mb a b g q p bk) := by
  have cq : w.cell? ⟨mb, 2 + q, none⟩ = some (.int .u32 (g q)) := by
    rw [Joins.cell_of_block hm (2 + q)]; exact mcells_word _ _ _ q hq
  have fz : w.frozen? ⟨mb, 2 + q, none⟩ = false := by simp [World.frozen?, hm]
  have k1 := clr_bits (g q) p hg hp
  have k2 := or_bits (clrW (g q) p) p (clr_lt _ p hg) hp
  have h1 : Hid ((w.setCell ⟨mb, 2 + q, none⟩ (.int .u32 (clrW (g q) p))).heap[mb]? = some (.cells (mat a b (fun j => if j = q then clrW (g q) p else g j)) 63 (0, 0))) := by
    have := Lib.heap_setCell_same (i := 2 + q) hm (.int .u32 (clrW (g q) p))
    rw [mat_set a b g q hq] at this
    exact this
  have h2 : Hid (((w.setCell ⟨mb, 2 + q, none⟩ (.int .u32 (clrW (g q) p))).setCell ⟨mb, 2 + q, none⟩ (.int .u32 (clrW (g q) p ||| 2 ^ p : Nat))).heap[mb]? = some (.cells (mat a b (fun j => if j = q then clrW (g q) p ||| 2 ^ p else g j)) 63 (0, 0))) := by
    have := Lib.heap_setCell_same (i := 2 + q) h1.out (.int .u32 (clrW (g q) p ||| 2 ^ p : Nat))
    rw [mat_set a b _ q hq] at this
    have e : (fun j => if j = q then clrW (g q) p ||| 2 ^ p else if j = q then clrW (g q) p else g j) = (fun j => if j = q then clrW (g q) p ||| 2 ^ p else g j) := by
      funext j; split <;> rfl
    rw [e] at this
    exact this
  have kq : (q : Int) < 16 := by omega
  have HU : Hid (updG g q p = fun bk j => if j = q then updW (g q) p bk else g j) := rfl
  obtain ⟨W, hW⟩ : ∃ W, g q = W := ⟨_, rfl⟩
  rw [hW] at cq k1 k2 h1 h2 HU
  clear hg hW hm
  cases bk with
  | false =>
    have HE : Setted w mb a b g q p false (.returned (.tuple #[])) (w.setCell ⟨mb, 2 + q, none⟩ (.int .u32 (clrW W p))).drew := ⟨rfl, by rw [HU.out]; exact h1.out, (Below.setCell (p := ⟨mb, 2 + q, none⟩) (Below.refl mb w) (Nat.le_refl _) _).drew⟩
    have HE' := Lib.hid HE
    clear HE
    go_enter Tryd.func75, Tryd.ntmps75
    go_wp2
    go_region
    go_wp2
    go_end0
    exact HE'.out
  | true =>
    have b1 : Below mb w (w.setCell ⟨mb, 2 + q, none⟩ (.int .u32 (clrW W p))).drew := (Below.setCell (p := ⟨mb, 2 + q, none⟩) (Below.refl mb w) (Nat.le_refl _) _).drew
    have b2 : Below mb w (((w.setCell ⟨mb, 2 + q, none⟩ (.int .u32 (clrW W p))).drew.setCell ⟨mb, 2 + q, none⟩ (.int .u32 (clrW W p ||| 2 ^ p : Nat)))).drew := (Below.setCell (p := ⟨mb, 2 + q, none⟩) b1 (Nat.le_refl _) _).drew
    have HE : Setted w mb a b g q p true (.returned (.tuple #[])) (((w.setCell ⟨mb, 2 + q, none⟩ (.int .u32 (clrW W p))).drew.setCell ⟨mb, 2 + q, none⟩ (.int .u32 (clrW W p ||| 2 ^ p : Nat)))).drew := ⟨rfl, by rw [HU.out]; exact h2.out, b2⟩
    have HE' := Lib.hid HE
    have cq2 : (w.setCell ⟨mb, 2 + q, none⟩ (.int .u32 (clrW W p))).drew.cell? ⟨mb, 2 + q, none⟩ = some (.int .u32 (clrW W p)) := by
      show (w.setCell ⟨mb, 2 + q, none⟩ (.int .u32 (clrW W p))).cell? ⟨mb, 2 + q, none⟩ = _
      rw [Joins.cell_of_block h1.out (2 + q)]
      have := mcells_word a b (fun j => ((if j = q then clrW W p else g j : Nat) : Int)) q hq
      unfold mat
      rw [this, if_pos rfl]
    have fz2 : (w.setCell ⟨mb, 2 + q, none⟩ (.int .u32 (clrW W p))).drew.frozen? ⟨mb, 2 + q, none⟩ = false := by
      show (w.setCell ⟨mb, 2 + q, none⟩ (.int .u32 (clrW W p))).frozen? ⟨mb, 2 + q, none⟩ = false
      have := h1.out
      simp [World.frozen?, this]
    clear HE b1 b2
    go_enter Tryd.func75, Tryd.ntmps75
    go_wp2
    go_region
    obtain ⟨w1, hw1⟩ : ∃ w1, (w.setCell ⟨mb, 2 + q, none⟩ (.int .u32 (clrW W p))).drew = w1 := ⟨_, rfl⟩
    rw [hw1] at cq2 fz2 HE' ⊢
    clear hw1 cq fz h1 h2
    go_wp2
    go_region
    go_wp2
    go_end0
    exact HE'.out
theorem upd_all {g : Nat → Nat} (hg : ∀ j, g j < 4294967296) (q p : Nat) (bk : Bool) (hp : p < 16) (j : Nat) : updG g q p bk j < 4294967296 := by
  unfold updG
  split
  · exact upd_lt _ p bk (hg q) hp
  · exact hg j

end Go.Proofs.YtnmnlbgialolhaaDoor

/- Contracts of single functions, and plain lemmas, on which the exact laws of this seat rest; each holds under the conditions that it states. -/
namespace Go.Proofs.YtnmnlbgialolhaaDoor
set_option linter.unusedVariables false
set_option linter.unusedSimpArgs false
open Go.RowKit
attribute [local go_sem] Oper.semAt_some

/-! ### the pixels of a grey picture -/
theorem built_m2 (a b : Int) : Tryd.prog.built 63 [(0, .int .i64 a), (1, .int .i64 b)] = some (mcells a b (fun _ => 0)) := by kernel_rfl
set_option maxHeartbeats 1000000 in
theorem sizeG_any {m : Int} (v : Value) (gs : List (List Int)) (w : World) (V : VG m gs) (hv : SlG w v gs) :
    Calls Tryd.prog 69 #[v] w (fun e w' => e = .returned (.agg (mcells (rowF gs 0).length gs.length (fun _ => 0))) ∧ Below w.heap.size w w') := by
  obtain ⟨ao, cap, rfl, ho⟩ := hv.open'
  obtain ⟨b, off, rfl, hbl, hrow⟩ := ho V.n1
  obtain ⟨ay, cy, h1, _, _⟩ := hrow 0 V.n1
  have h1 : w.cell? ⟨b, off, none⟩ = some (.slice ay (rowF gs 0).length cy) := h1
  have hn1 := V.n1
  obtain ⟨n, hn⟩ : ∃ n, gs.length = n := ⟨_, rfl⟩
  rw [hn] at hn1 ⊢
  obtain ⟨a, ha⟩ : ∃ a, (rowF gs 0).length = a := ⟨_, rfl⟩
  rw [ha] at h1 ⊢
  have kn : (0 : Int) < (n : Int) := by omega
  have HBl := Lib.hid (built_m2 a n)
  have HI4 : Hid ((Tryd.prog.info? 63).map (·.size) = some (mcells a n (fun _ => 0)).size) := infoM
  have HI5 : Hid (zeros.size = (mcells a n (fun _ => 0)).size) := rfl
  have HI6 : Hid ((mcells a n (fun _ => 0)).all (·.oneCell') = true) := mcells_one a n (fun _ => 0)
  obtain ⟨C0, hC0⟩ : ∃ C, mcells (a : Int) (n : Int) (fun _ => 0) = C := ⟨_, rfl⟩
  rw [hC0] at HBl HI4 HI5 HI6 ⊢
  obtain ⟨W0, hW0⟩ : ∃ W0, w.alloc (.cells #[.int .i64 0, .int .i64 0, .int .u32 0, .int .u32 0, .int .u32 0, .int .u32 0, .int .u32 0, .int .u32 0, .int .u32 0, .int .u32 0, .int .u32 0, .int .u32 0, .int .u32 0, .int .u32 0, .int .u32 0, .int .u32 0, .int .u32 0, .int .u32 0] 63) = W0 := ⟨_, rfl⟩
  have hz : zeros = #[.int .i64 0, .int .i64 0, .int .u32 0, .int .u32 0, .int .u32 0, .int .u32 0, .int .u32 0, .int .u32 0, .int .u32 0, .int .u32 0, .int .u32 0, .int .u32 0, .int .u32 0, .int .u32 0, .int .u32 0, .int .u32 0, .int .u32 0, .int .u32 0] := rfl
  have hb0 : Below w.heap.size w W0 := by rw [← hW0]; exact Joins.below_alloc1 _ _
  have hr0 : W0.heap[w.heap.size]? = some (.cells zeros 63 (0, 0)) := by rw [← hW0, hz]; exact heap_alloc_last w _
  have hc0 : W0.cell? ⟨b, off, none⟩ = some (.slice ay a cy) := cell_kept hb0 h1
  have HW0 := Lib.hid hW0
  have HR0 := Lib.hid hr0
  have HB0 := Lib.hid hb0
  clear hv ho hrow V hn ha hC0 hW0 hz hr0 hb0 h1
  go_enter Tryd.func69, Tryd.ntmps69
  go_upto_region 1 with fail
  rw [HW0.out]
  go_wp2_with (first | (refine wpList_build_as rfl 63 _ rfl [(0, .int .i64 a), (1, .int .i64 n)] C0 rfl HBl.out ?_) | (refine wpList_store_row rfl 63 _ _ rfl w.heap.size C0 rfl rfl 63 zeros HR0.out HI4.out HI5.out HI6.out ?_))
  exact bodyPost_ret (results_cell1 (p := 2) (ty := 63) Tryd.results69 _ _ w.heap.size 63 C0 (0, 0) _ rfl (setRow_heap _ _ _ _ _ _ HR0.out) Tryd.underlying63 rfl HI4.out) rfl ⟨rfl, setRow_below HB0.out (Nat.le_refl _) _⟩

set_option maxHeartbeats 1000000 in
theorem atG_any {m : Int} (v : Value) (gs : List (List Int)) (x y : Nat) (w : World) (V : VG m gs) (hx : x < (rowF gs 0).length) (hy : y < gs.length) (hv : SlG w v gs) :
    Calls Tryd.prog 97 #[v, .agg #[.int .i64 x, .int .i64 y]] w (fun e w' => ∃ b2 o2, e = .returned (.pointer (some ⟨b2, o2 + x, none⟩)) ∧ w.cell? ⟨b2, o2 + x, none⟩ = some (.int .i64 ((rowF gs y).getD x 0)) ∧ Below w.heap.size w w') := by
  obtain ⟨ao, cap, rfl, ho⟩ := hv.open'
  obtain ⟨b, off, rfl, hbl, hrow⟩ := ho V.n1
  obtain ⟨ay, cy, h1, _, h3⟩ := hrow y hy
  have hl := V.len y hy
  obtain ⟨b2, o2, rfl, hb2, hcs⟩ := h3 (by omega)
  have hc := hcs x (by omega)
  rw [hl] at h1
  obtain ⟨n, hn⟩ : ∃ n, gs.length = n := ⟨_, rfl⟩
  rw [hn] at hy ⊢
  obtain ⟨a, ha⟩ : ∃ a, (rowF gs 0).length = a := ⟨_, rfl⟩
  rw [ha] at h1 hx
  have kx : (x : Int) < (a : Int) := by omega
  have ky : (y : Int) < (n : Int) := by omega
  have h1a : (w.alloc (.cells #[.int .i64 x, .int .i64 y] 93)).cell? ⟨b, off + y, none⟩ = some (.slice (some ⟨b2, o2, none⟩) a cy) := cell_kept (Joins.below_alloc1 _ _) h1
  have HCx := Lib.hid hc
  clear hv ho hrow V hn ha hl hcs h3 h1 hc
  go_enter Tryd.func97, Tryd.ntmps97
  go_wp2_with fail
  go_quiet (fail)
  go_wp2
  go_ret
  exact ⟨b2, o2, rfl, HCx.out, (Joins.below_alloc1 w _).trans (Joins.below_draws w.heap.size _ _)⟩

end Go.Proofs.YtnmnlbgialolhaaDoor

/- Contracts of single functions, and plain lemmas, on which the exact laws of this seat rest; each holds under the conditions that it states. -/
namespace Go.Proofs.YtnmnlbgialolhaaDoor
set_option linter.unusedVariables false
set_option linter.unusedSimpArgs false
open Go.RowKit

/-! ### the pixels of a picture that is being made, spot by spot -/
def InG (a b : Nat) (q : Int × Int) : Prop := (0 ≤ q.1 ∧ q.1 < (a : Int)) ∧ (0 ≤ q.2 ∧ q.2 < (b : Int))
def gGrid (a b : Nat) (ha : 0 < a) (hb : 0 < b) : Grid (InG a b) := ⟨a, b, 0, ha, hb, fun x y hx hy => by
  show (0 ≤ (x : Int) - ((0 : Nat) : Int) ∧ (x : Int) - ((0 : Nat) : Int) < (a : Int)) ∧ (0 ≤ (y : Int) - ((0 : Nat) : Int) ∧ (y : Int) - ((0 : Nat) : Int) < (b : Int))
  omega⟩
def dnG {a b : Nat} (f : Nat → Nat → Bool) (pre : List { q : Int × Int // InG a b q }) : Nat → Nat := pre.foldl (fun g x => updG g x.1.2.toNat x.1.1.toNat (f x.1.2.toNat x.1.1.toNat)) (fun _ => 0)
theorem dn_snoc {a b : Nat} (f : Nat → Nat → Bool) (pre : List { q : Int × Int // InG a b q }) (x : { q : Int × Int // InG a b q }) : dnG f (pre ++ [x]) = updG (dnG f pre) x.1.2.toNat x.1.1.toNat (f x.1.2.toNat x.1.1.toNat) := by
  unfold dnG
  rw [List.foldl_append]
  rfl
theorem dn_bits (a b : Nat) (ha : 0 < a) (hb : 0 < b) (ha16 : a ≤ 16) (f : Nat → Nat → Bool) (y x : Nat) (hy : y < b) (hx : x < a) : ∀ t, t ≤ b * a → (dnG f ((gGrid a b ha hb).list t) y).testBit x = (decide (y * a + x < t) && f y x)
  | 0, _ => by simp [dnG, Grid.list]
  | t + 1, h => by
    have ih := dn_bits a b ha hb ha16 f y x hy hx t (by omega)
    have hm : t % a < a := Nat.mod_lt _ ha
    have hd : t / a < b := Nat.div_lt_of_lt_mul (by rw [Nat.mul_comm]; omega)
    have e1 : ((gGrid a b ha hb).at t).1.1.toNat = t % a := by
      show (((t % a : Nat) : Int) - ((0 : Nat) : Int)).toNat = t % a
      rw [Int.natCast_zero, Int.sub_zero, Int.toNat_natCast]
    have e2 : ((gGrid a b ha hb).at t).1.2.toNat = t / a := by
      show (((t / a % b : Nat) : Int) - ((0 : Nat) : Int)).toNat = t / a
      rw [Nat.mod_eq_of_lt hd, Int.natCast_zero, Int.sub_zero, Int.toNat_natCast]
    rw [Grid.list_snoc, dn_snoc, e1, e2]
    unfold updG
    have ht : t = t / a * a + t % a := by rw [Nat.mul_comm]; exact (Nat.div_add_mod t a).symm
    by_cases hyy : y = t / a
    · rw [if_pos hyy, upd_bit _ _ _ _ (by omega) (by omega), ← hyy]
      by_cases hxx : x = t % a
      · rw [if_pos hxx, ← hxx, decide_eq_true (by rw [hyy, hxx]; omega), Bool.true_and]
      · rw [if_neg hxx, ih]
        congr 1
        refine decide_eq_decide.2 ?_
        have : y * a + x ≠ t := by rw [hyy]; omega
        omega
    · rw [if_neg hyy, ih]
      congr 1
      refine decide_eq_decide.2 ?_
      have : y * a + x ≠ t := fun e => hyy (by rw [← e, Nat.mul_comm, Nat.mul_add_div ha, Nat.div_eq_of_lt hx, Nat.add_zero])
      omega
theorem dn_lt {a b : Nat} (f : Nat → Nat → Bool) (pre : List { q : Int × Int // InG a b q }) (ha : a ≤ 16) : ∀ j, dnG f pre j < 4294967296 := by
  have : ∀ (pre : List { q : Int × Int // InG a b q }) (g : Nat → Nat), (∀ j, g j < 4294967296) → ∀ j, pre.foldl (fun g x => updG g x.1.2.toNat x.1.1.toNat (f x.1.2.toNat x.1.1.toNat)) g j < 4294967296 := by
    intro pre
    induction pre with
    | nil => intro g hg; exact hg
    | cons x pre ih =>
      intro g hg
      refine ih _ (fun j => ?_)
      have hin := x.2
      unfold InG at hin
      exact upd_all hg _ _ _ (by omega) j
  exact this pre _ (fun _ => by omega)
theorem dn_pic (a b : Nat) (ha : 0 < a) (hb : 0 < b) (ha16 : a ≤ 16) (hb16 : b ≤ 16) (f : Nat → Nat → Bool) (w : World) :
    Calls Tryd.prog 44 #[.agg (mat a b (dnG f ((gGrid a b ha hb).list (b * a))))] w (TookPic w (mkPic a b f)) := by
  have := picture_any (mat a b (dnG f ((gGrid a b ha hb).list (b * a)))) a b _ w rfl ha16 hb16 (fun j => dn_lt f _ ha16 j)
  rwa [mkPic_congr (f := fun y x => blackB a b (dnG f ((gGrid a b ha hb).list (b * a))) (x : Int) (y : Int)) (g := f) fun y hy x hx => by
    show blackB a b _ (x : Int) (y : Int) = f y x
    unfold blackB
    rw [hasB_insB, in_range hx hy, Bool.true_and, Int.toNat_natCast, Int.toNat_natCast, dn_bits a b ha hb ha16 f y x hy hx (b * a) (Nat.le_refl _)]
    have : (y + 1) * a ≤ b * a := Nat.mul_le_mul hy (Nat.le_refl _)
    rw [Nat.add_mul, Nat.one_mul] at this
    rw [decide_eq_true (by omega), Bool.true_and]] at this
end Go.Proofs.YtnmnlbgialolhaaDoor

/- Contracts of single functions, and plain lemmas, on which the exact laws of this seat rest; each holds under the conditions that it states. -/
namespace Go.Proofs.YtnmnlbgialolhaaDoor
set_option linter.unusedVariables false
set_option linter.unusedSimpArgs false
open Go.RowKit
attribute [local go_sem] Oper.semAt_some

/-- a pixel set: one block is another, all others stay -/
def SetX (w w' : World) (mb a b : Nat) (g : Nat → Nat) (q p : Nat) (bk : Bool) : Prop :=
  w'.heap[mb]? = some (.cells (mat a b (updG g q p bk)) 63 (0, 0)) ∧ Below mb w w' ∧ (∀ k, k ≠ mb → w'.heap[k]? = w.heap[k]?) ∧ w'.heap.size = w.heap.size

set_option maxHeartbeats 2000000 in
set_option maxRecDepth 100000 in
theorem set_any2 (mb a b : Nat) (g : Nat → Nat) (p q : Nat) (bk : Bool) (w : World) (hm : w.heap[mb]? = some (.cells (mat a b g) 63 (0, 0))) (hp : p < 16) (hq : q < 16) (hg : g q < 4294967296) :
    Calls Tryd.prog 75 #[.pointer (some ⟨mb, 0, none⟩), .int .i64 p, .int .i64 q, .bool bk] w (fun e w' => e = .returned (.tuple #[]) ∧ SetX w w' mb a b g q p bk) := by
  have cq : w.cell? ⟨mb, 2 + q, none⟩ = some (.int .u32 (g q)) := by
    rw [Joins.cell_of_block hm (2 + q)]; exact mcells_word _ _ _ q hq
  have fz : w.frozen? ⟨mb, 2 + q, none⟩ = false := by simp [World.frozen?, hm]
  have k1 := clr_bits (g q) p hg hp
  have k2 := or_bits (clrW (g q) p) p (clr_lt _ p hg) hp
  have h1 : Hid ((w.setCell ⟨mb, 2 + q, none⟩ (.int .u32 (clrW (g q) p))).heap[mb]? = some (.cells (mat a b (fun j => if j = q then clrW (g q) p else g j)) 63 (0, 0))) := by
    have := Lib.heap_setCell_same (i := 2 + q) hm (.int .u32 (clrW (g q) p))
    rw [mat_set a b g q hq] at this
    exact this
  have h2 : Hid (((w.setCell ⟨mb, 2 + q, none⟩ (.int .u32 (clrW (g q) p))).setCell ⟨mb, 2 + q, none⟩ (.int .u32 (clrW (g q) p ||| 2 ^ p : Nat))).heap[mb]? = some (.cells (mat a b (fun j => if j = q then clrW (g q) p ||| 2 ^ p else g j)) 63 (0, 0))) := by
    have := Lib.heap_setCell_same (i := 2 + q) h1.out (.int .u32 (clrW (g q) p ||| 2 ^ p : Nat))
    rw [mat_set a b _ q hq] at this
    have e : (fun j => if j = q then clrW (g q) p ||| 2 ^ p else if j = q then clrW (g q) p else g j) = (fun j => if j = q then clrW (g q) p ||| 2 ^ p else g j) := by
      funext j; split <;> rfl
    rw [e] at this
    exact this
  have kq : (q : Int) < 16 := by omega
  have HU : Hid (updG g q p = fun bk j => if j = q then updW (g q) p bk else g j) := rfl
  obtain ⟨W, hW⟩ : ∃ W, g q = W := ⟨_, rfl⟩
  rw [hW] at cq k1 k2 h1 h2 HU
  clear hg hW hm
  cases bk with
  | false =>
    have HE : (Ending.returned (.tuple #[])) = Ending.returned (.tuple #[]) ∧ SetX w (w.setCell ⟨mb, 2 + q, none⟩ (.int .u32 (clrW W p))).drew mb a b g q p false := ⟨rfl, by rw [HU.out]; exact h1.out, (Below.setCell (p := ⟨mb, 2 + q, none⟩) (Below.refl mb w) (Nat.le_refl _) _).drew, fun k hk => Below.heap_setCell w ⟨mb, 2 + q, none⟩ _ k hk, by simp⟩
    have HE' := Lib.hid HE
    clear HE
    go_enter Tryd.func75, Tryd.ntmps75
    go_wp2
    go_region
    go_wp2
    go_end0
    exact ⟨rfl, HE'.out.2⟩
  | true =>
    have b1 : Below mb w (w.setCell ⟨mb, 2 + q, none⟩ (.int .u32 (clrW W p))).drew := (Below.setCell (p := ⟨mb, 2 + q, none⟩) (Below.refl mb w) (Nat.le_refl _) _).drew
    have b2 : Below mb w (((w.setCell ⟨mb, 2 + q, none⟩ (.int .u32 (clrW W p))).drew.setCell ⟨mb, 2 + q, none⟩ (.int .u32 (clrW W p ||| 2 ^ p : Nat)))).drew := (Below.setCell (p := ⟨mb, 2 + q, none⟩) b1 (Nat.le_refl _) _).drew
    have HE : (Ending.returned (.tuple #[])) = Ending.returned (.tuple #[]) ∧ SetX w (((w.setCell ⟨mb, 2 + q, none⟩ (.int .u32 (clrW W p))).drew.setCell ⟨mb, 2 + q, none⟩ (.int .u32 (clrW W p ||| 2 ^ p : Nat)))).drew mb a b g q p true := ⟨rfl, by rw [HU.out]; exact h2.out, b2, fun k hk => (Below.heap_setCell (w.setCell ⟨mb, 2 + q, none⟩ (.int .u32 (clrW W p))).drew ⟨mb, 2 + q, none⟩ _ k hk).trans (Below.heap_setCell w ⟨mb, 2 + q, none⟩ _ k hk), by simp⟩
    have HE' := Lib.hid HE
    have cq2 : (w.setCell ⟨mb, 2 + q, none⟩ (.int .u32 (clrW W p))).drew.cell? ⟨mb, 2 + q, none⟩ = some (.int .u32 (clrW W p)) := by
      show (w.setCell ⟨mb, 2 + q, none⟩ (.int .u32 (clrW W p))).cell? ⟨mb, 2 + q, none⟩ = _
      rw [Joins.cell_of_block h1.out (2 + q)]
      have := mcells_word a b (fun j => ((if j = q then clrW W p else g j : Nat) : Int)) q hq
      unfold mat
      rw [this, if_pos rfl]
    have fz2 : (w.setCell ⟨mb, 2 + q, none⟩ (.int .u32 (clrW W p))).drew.frozen? ⟨mb, 2 + q, none⟩ = false := by
      show (w.setCell ⟨mb, 2 + q, none⟩ (.int .u32 (clrW W p))).frozen? ⟨mb, 2 + q, none⟩ = false
      have := h1.out
      simp [World.frozen?, this]
    clear HE b1 b2
    go_enter Tryd.func75, Tryd.ntmps75
    go_wp2
    go_region
    obtain ⟨w1, hw1⟩ : ∃ w1, (w.setCell ⟨mb, 2 + q, none⟩ (.int .u32 (clrW W p))).drew = w1 := ⟨_, rfl⟩
    rw [hw1] at cq2 fz2 HE' ⊢
    clear hw1 cq fz h1 h2
    go_wp2
    go_region
    go_wp2
    go_end0
    exact ⟨rfl, HE'.out.2⟩

set_option maxHeartbeats 1000000 in
theorem atG_at (b off n cap a b2 o2 cy x y : Nat) (w : World) (hx : x < a) (hy : y < n) (h1 : w.cell? ⟨b, off + y, none⟩ = some (.slice (some ⟨b2, o2, none⟩) a cy)) :
    Calls Tryd.prog 97 #[.slice (some ⟨b, off, none⟩) n cap, .agg #[.int .i64 x, .int .i64 y]] w (fun e w' => e = .returned (.pointer (some ⟨b2, o2 + x, none⟩)) ∧ Below w.heap.size w w') := by
  have kx : (x : Int) < (a : Int) := by omega
  have ky : (y : Int) < (n : Int) := by omega
  have h1a : (w.alloc (.cells #[.int .i64 x, .int .i64 y] 93)).cell? ⟨b, off + y, none⟩ = some (.slice (some ⟨b2, o2, none⟩) a cy) := cell_kept (Joins.below_alloc1 _ _) h1
  clear h1
  go_enter Tryd.func97, Tryd.ntmps97
  go_wp2_with fail
  go_quiet (fail)
  go_wp2
  go_ret
  exact ⟨rfl, (Joins.below_alloc1 w _).trans (Joins.below_draws w.heap.size _ _)⟩
end Go.Proofs.YtnmnlbgialolhaaDoor
