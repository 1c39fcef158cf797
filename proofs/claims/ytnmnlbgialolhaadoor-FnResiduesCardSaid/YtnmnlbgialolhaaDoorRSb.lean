/- Contracts of single functions, and plain lemmas, on which the exact laws of this seat rest; each holds under the conditions that it states. -/
import Derived.Test.YtnmnlbgialolhaaDoorGD
import Derived.Test.YtnmnlbgialolhaaDoorSc
import Derived.Test.YtnmnlbgialolhaaDoorPb
import Derived.Test.YtnmnlbgialolhaaDoorGL
import Derived.Test.YtnmnlbgialolhaaDoorS2
import Derived.Test.YtnmnlbgialolhaaDoorSu
import Derived.Test.YtnmnlbgialolhaaDoorRI
import Derived.Test.YtnmnlbgialolhaaDoorRc
namespace Go.Proofs.YtnmnlbgialolhaaDoor
set_option linter.unusedVariables false
set_option linter.unusedSimpArgs false
open Go.RowKit

/-! ### the numbers of a grey picture as one list -/
def flG (gs : List (List Int)) : Nat → List Int
  | 0 => []
  | k + 1 => flG gs k ++ rowF gs k
theorem flG_len {m : Int} {gs : List (List Int)} (V : VG m gs) : ∀ k, k ≤ gs.length → (flG gs k).length = k * (rowF gs 0).length
  | 0, _ => by simp [flG]
  | k + 1, h => by
    have h1 := V.len k (by omega)
    rw [flG, List.length_append, flG_len V k (by omega), h1, Nat.add_mul, Nat.one_mul]
theorem flG_at {m : Int} {gs : List (List Int)} (V : VG m gs) (y x : Nat) (hx : x < (rowF gs 0).length) : ∀ k, k ≤ gs.length → y < k → (flG gs k).getD (y * (rowF gs 0).length + x) 0 = (rowF gs y).getD x 0
  | 0, _, h => absurd h (Nat.not_lt_zero _)
  | k + 1, hk, h => by
    have hl := flG_len V k (by omega)
    have h1 := V.len k (by omega)
    rw [flG, List.getD_eq_getElem?_getD, List.getElem?_append, hl]
    by_cases e : y < k
    · have : (y + 1) * (rowF gs 0).length ≤ k * (rowF gs 0).length := Nat.mul_le_mul e (Nat.le_refl _)
      rw [Nat.add_mul, Nat.one_mul] at this
      rw [if_pos (by omega), ← List.getD_eq_getElem?_getD]
      exact flG_at V y x hx k (by omega) e
    · obtain rfl : y = k := by omega
      rw [if_neg (by omega), Nat.add_sub_cancel_left, ← List.getD_eq_getElem?_getD]

end Go.Proofs.YtnmnlbgialolhaaDoor

/- Contracts of single functions, and plain lemmas, on which the exact laws of this seat rest; each holds under the conditions that it states. -/
namespace Go.Proofs.YtnmnlbgialolhaaDoor
set_option linter.unusedVariables false
set_option linter.unusedSimpArgs false
open Go.RowKit

/-! ### the picture of what is at least a level -/
def thF (gs : List (List Int)) (lv : Int) (y x : Nat) : Bool := decide (lv ≤ (rowF gs y).getD x 0)
/-- the first k numbers that are at least a level -/
def thB (L : List Int) (lv : Int) (k : Nat) : List Bool := (List.range k).map fun j => decide (lv ≤ L.getD j 0)
theorem thB_len (L : List Int) (lv : Int) (k : Nat) : (thB L lv k).length = k := by simp [thB]
theorem thB_snoc (L : List Int) (lv : Int) (k : Nat) : boolV (thB L lv (k + 1)) = boolV (thB L lv k) ++ [.bool (decide (lv ≤ L.getD k 0))] := by
  simp [thB, boolV, List.range_succ]
theorem thB_pic {m : Int} {gs : List (List Int)} (V : VG m gs) (lv : Int) : mkPic (rowF gs 0).length gs.length (fun y x => (thB (flG gs gs.length) lv ((rowF gs 0).length * gs.length)).getD (y * (rowF gs 0).length + x) false) = mkPic (rowF gs 0).length gs.length (thF gs lv) :=
  mkPic_congr fun y hy x hx => by
    have : (y + 1) * (rowF gs 0).length ≤ gs.length * (rowF gs 0).length := Nat.mul_le_mul hy (Nat.le_refl _)
    rw [Nat.add_mul, Nat.one_mul, Nat.mul_comm gs.length] at this
    have hlt : y * (rowF gs 0).length + x < (rowF gs 0).length * gs.length := by omega
    rw [List.getD_eq_getElem?_getD]
    unfold thB thF
    rw [List.getElem?_map, List.getElem?_range hlt]
    show decide (lv ≤ (flG gs gs.length).getD (y * (rowF gs 0).length + x) 0) = _
    rw [flG_at V y x hx gs.length (Nat.le_refl _) hy]
theorem own_ne2 {w : World} {base n : Nat} {e t : TypeId} {s P : Nat} {v : Value} {xs : List Value} {cs : Array Value} {o : Nat × Nat} (h : w.ownsRow base e s v n xs) (hP : w.heap[P]? = some (.cells cs t o)) (he : t ≠ e) : v.ownBlock ≠ some P := by
  rcases h.2 with ⟨hv, _⟩ | ⟨g, cap, cur, hv, _, hg, _⟩
  · subst hv; simp [Value.ownBlock]
  · subst hv
    simp only [Value.ownBlock]
    intro e1
    have e1 := Option.some.inj e1
    subst e1
    rw [hg] at hP
    injection hP with hP
    injection hP with _ h2
    exact he h2.symm
/-- a row of numbers, by its block alone -/
theorem OwnN.blk {w : World} {base g cap : Nat} {ns : List Int} (h : OwnN w base (.slice (some ⟨g, 0, none⟩) ns.length cap) ns) : ∃ (cur : Array Value) (o : Nat × Nat), w.heap[g]? = some (.cells cur 2 o) ∧ ∀ j, j < ns.length → cur[j]? = some (.int .i64 (ns.getD j 0)) := by
  have hcell : ∀ j, j < ns.length → w.cell? ⟨g, j, none⟩ = some (.int .i64 (ns.getD j 0)) := fun j hj => by
    have := World.ownsRow.cellAt (h : w.ownsRow base 2 1 _ ns.length (numsV ns)) j (by omega)
    rw [this]
    unfold numsV
    rw [List.getElem?_map, List.getElem?_eq_getElem hj, List.getD_eq_getElem?_getD, List.getElem?_eq_getElem hj]
    rfl
  rcases h.2 with ⟨hv, _⟩ | ⟨g2, cap2, cur, hv, _, hg, _⟩
  · cases hv
  · injection hv with hv
    obtain rfl : g = g2 := by injection hv with hv; injection hv
    refine ⟨cur, _, hg, fun j hj => ?_⟩
    have := hcell j hj
    rw [Joins.cell_of_block hg j] at this
    exact this

end Go.Proofs.YtnmnlbgialolhaaDoor

/- Contracts of single functions, and plain lemmas, on which the exact laws of this seat rest; each holds under the conditions that it states. -/
namespace Go.Proofs.YtnmnlbgialolhaaDoor
set_option linter.unusedVariables false
set_option linter.unusedSimpArgs false
open Go.RowKit

/-! ### the pixels of a picture that is being made, spot by spot -/
def InG (a b : Nat) (q : Int × Int) : Prop := (0 ≤ q.1 ∧ q.1 < (a : Int)) ∧ (0 ≤ q.2 ∧ q.2 < (b : Int))
def gGrid (a b : Nat) (ha : 0 < a) (hb : 0 < b) : Grid (InG a b) := ⟨a, b, 0, ha, hb, fun x y hx hy => by
  show (0 ≤ (x : Int) - ((0 : Nat) : Int) ∧ (x : Int) - ((0 : Nat) : Int) < (a : Int)) ∧ (0 ≤ (y : Int) - ((0 : Nat) : Int) ∧ (y : Int) - ((0 : Nat) : Int) < (b : Int))
  omega⟩
def dnG {a b : Nat} (f : Nat → Nat → Bool) (pre : List { q : Int × Int // InG a b q }) : Nat → Nat := pre.foldl (fun g x => updG g x.1.2.toNat x.1.1.toNat (f x.1.2.toNat x.1.1.toNat)) (fun _ => 0)
theorem dn_snoc {a b : Nat} (f : Nat → Nat → Bool) (pre : List { q : Int × Int // InG a b q }) (x : { q : Int × Int // InG a b q }) : dnG f (pre ++ [x]) = updG (dnG f pre) x.1.2.toNat x.1.1.toNat (f x.1.2.toNat x.1.1.toNat) := by
  unfold dnG
  rw [List.foldl_append]
  rfl
theorem dn_bits (a b : Nat) (ha : 0 < a) (hb : 0 < b) (ha16 : a ≤ 16) (f : Nat → Nat → Bool) (y x : Nat) (hy : y < b) (hx : x < a) : ∀ t, t ≤ b * a → (dnG f ((gGrid a b ha hb).list t) y).testBit x = (decide (y * a + x < t) && f y x)
  | 0, _ => by simp [dnG, Grid.list]
  | t + 1, h => by
    have ih := dn_bits a b ha hb ha16 f y x hy hx t (by omega)
    have hm : t % a < a := Nat.mod_lt _ ha
    have hd : t / a < b := Nat.div_lt_of_lt_mul (by rw [Nat.mul_comm]; omega)
    have e1 : ((gGrid a b ha hb).at t).1.1.toNat = t % a := by
      show (((t % a : Nat) : Int) - ((0 : Nat) : Int)).toNat = t % a
      rw [Int.natCast_zero, Int.sub_zero, Int.toNat_natCast]
    have e2 : ((gGrid a b ha hb).at t).1.2.toNat = t / a := by
      show (((t / a % b : Nat) : Int) - ((0 : Nat) : Int)).toNat = t / a
      rw [Nat.mod_eq_of_lt hd, Int.natCast_zero, Int.sub_zero, Int.toNat_natCast]
    rw [Grid.list_snoc, dn_snoc, e1, e2]
    unfold updG
    have ht : t = t / a * a + t % a := by rw [Nat.mul_comm]; exact (Nat.div_add_mod t a).symm
    by_cases hyy : y = t / a
    · rw [if_pos hyy, upd_bit _ _ _ _ (by omega) (by omega), ← hyy]
      by_cases hxx : x = t % a
      · rw [if_pos hxx, ← hxx, decide_eq_true (by rw [hyy, hxx]; omega), Bool.true_and]
      · rw [if_neg hxx, ih]
        congr 1
        refine decide_eq_decide.2 ?_
        have : y * a + x ≠ t := by rw [hyy]; omega
        omega
    · rw [if_neg hyy, ih]
      congr 1
      refine decide_eq_decide.2 ?_
      have : y * a + x ≠ t := fun e => hyy (by rw [← e, Nat.mul_comm, Nat.mul_add_div ha, Nat.div_eq_of_lt hx, Nat.add_zero])
      omega
theorem dn_lt {a b : Nat} (f : Nat → Nat → Bool) (pre : List { q : Int × Int // InG a b q }) (ha : a ≤ 16) : ∀ j, dnG f pre j < 4294967296 := by
  have : ∀ (pre : List { q : Int × Int // InG a b q }) (g : Nat → Nat), (∀ j, g j < 4294967296) → ∀ j, pre.foldl (fun g x => updG g x.1.2.toNat x.1.1.toNat (f x.1.2.toNat x.1.1.toNat)) g j < 4294967296 := by
    intro pre
    induction pre with
    | nil => intro g hg; exact hg
    | cons x pre ih =>
      intro g hg
      refine ih _ (fun j => ?_)
      have hin := x.2
      unfold InG at hin
      exact upd_all hg _ _ _ (by omega) j
  exact this pre _ (fun _ => by omega)
theorem dn_pic (a b : Nat) (ha : 0 < a) (hb : 0 < b) (ha16 : a ≤ 16) (hb16 : b ≤ 16) (f : Nat → Nat → Bool) (w : World) :
    Calls Tryd.prog 44 #[.agg (mat a b (dnG f ((gGrid a b ha hb).list (b * a))))] w (TookPic w (mkPic a b f)) := by
  have := picture_any (mat a b (dnG f ((gGrid a b ha hb).list (b * a)))) a b _ w rfl ha16 hb16 (fun j => dn_lt f _ ha16 j)
  rwa [mkPic_congr (f := fun y x => blackB a b (dnG f ((gGrid a b ha hb).list (b * a))) (x : Int) (y : Int)) (g := f) fun y hy x hx => by
    show blackB a b _ (x : Int) (y : Int) = f y x
    unfold blackB
    rw [hasB_insB, in_range hx hy, Bool.true_and, Int.toNat_natCast, Int.toNat_natCast, dn_bits a b ha hb ha16 f y x hy hx (b * a) (Nat.le_refl _)]
    have : (y + 1) * a ≤ b * a := Nat.mul_le_mul hy (Nat.le_refl _)
    rw [Nat.add_mul, Nat.one_mul] at this
    rw [decide_eq_true (by omega), Bool.true_and]] at this
end Go.Proofs.YtnmnlbgialolhaaDoor

/- Contracts of single functions, and plain lemmas, on which the exact laws of this seat rest; each holds under the conditions that it states. -/
namespace Go.Proofs.YtnmnlbgialolhaaDoor
set_option linter.unusedVariables false
set_option linter.unusedSimpArgs false
open Go.RowKit
attribute [local go_sem] Oper.semAt_some

/-- a pixel set: one block is another, all others stay -/
def SetX (w w' : World) (mb a b : Nat) (g : Nat → Nat) (q p : Nat) (bk : Bool) : Prop :=
  w'.heap[mb]? = some (.cells (mat a b (updG g q p bk)) 63 (0, 0)) ∧ Below mb w w' ∧ (∀ k, k ≠ mb → w'.heap[k]? = w.heap[k]?) ∧ w'.heap.size = w.heap.size

set_option maxHeartbeats 2000000 in
set_option maxRecDepth 100000 in
theorem set_any2 (mb a b : Nat) (g : Nat → Nat) (p q : Nat) (bk : Bool) (w : World) (hm : w.heap[mb]? = some (.cells (mat a b g) 63 (0, 0))) (hp : p < 16) (hq : q < 16) (hg : g q < 4294967296) :
    Calls Tryd.prog 75 #[.pointer (some ⟨mb, 0, none⟩), .int .i64 p, .int .i64 q, .bool bk] w (fun e w' => e = .returned (.tuple #[]) ∧ SetX w w' mb a b g q p bk) := by
  have cq : w.cell? ⟨mb, 2 + q, none⟩ = some (.int .u32 (g q)) := by
    rw [Joins.cell_of_block hm (2 + q)]; exact mcells_word _ _ _ q hq
  have fz : w.frozen? ⟨mb, 2 + q, none⟩ = false := by simp [World.frozen?, hm]
  have k1 := clr_bits (g q) p hg hp
  have k2 := or_bits (clrW (g q) p) p (clr_lt _ p hg) hp
  have h1 : Hid ((w.setCell ⟨mb, 2 + q, none⟩ (.int .u32 (clrW (g q) p))).heap[mb]? = some (.cells (mat a b (fun j => if j = q then clrW (g q) p else g j)) 63 (0, 0))) := by
    have := Lib.heap_setCell_same (i := 2 + q) hm (.int .u32 (clrW (g q) p))
    rw [mat_set a b g q hq] at this
    exact this
  have h2 : Hid (((w.setCell ⟨mb, 2 + q, none⟩ (.int .u32 (clrW (g q) p))).setCell ⟨mb, 2 + q, none⟩ (.int .u32 (clrW (g q) p ||| 2 ^ p : Nat))).heap[mb]? = some (.cells (mat a b (fun j => if j = q then clrW (g q) p ||| 2 ^ p else g j)) 63 (0, 0))) := by
    have := Lib.heap_setCell_same (i := 2 + q) h1.out (.int .u32 (clrW (g q) p ||| 2 ^ p : Nat))
    rw [mat_set a b _ q hq] at this
    have e : (fun j => if j = q then clrW (g q) p ||| 2 ^ p else if j = q then clrW (g q) p else g j) = (fun j => if j = q then clrW (g q) p ||| 2 ^ p else g j) := by
      funext j; split <;> rfl
    rw [e] at this
    exact this
  have kq : (q : Int) < 16 := by omega
  have HU : Hid (updG g q p = fun bk j => if j = q then updW (g q) p bk else g j) := rfl
  obtain ⟨W, hW⟩ : ∃ W, g q = W := ⟨_, rfl⟩
  rw [hW] at cq k1 k2 h1 h2 HU
  clear hg hW hm
  cases bk with
  | false =>
    have HE : (Ending.returned (.tuple #[])) = Ending.returned (.tuple #[]) ∧ SetX w (w.setCell ⟨mb, 2 + q, none⟩ (.int .u32 (clrW W p))).drew mb a b g q p false := ⟨rfl, by rw [HU.out]; exact h1.out, (Below.setCell (p := ⟨mb, 2 + q, none⟩) (Below.refl mb w) (Nat.le_refl _) _).drew, fun k hk => Below.heap_setCell w ⟨mb, 2 + q, none⟩ _ k hk, by simp⟩
    have HE' := Lib.hid HE
    clear HE
    go_enter Tryd.func75, Tryd.ntmps75
    go_wp2
    go_region
    go_wp2
    go_end0
    exact ⟨rfl, HE'.out.2⟩
  | true =>
    have b1 : Below mb w (w.setCell ⟨mb, 2 + q, none⟩ (.int .u32 (clrW W p))).drew := (Below.setCell (p := ⟨mb, 2 + q, none⟩) (Below.refl mb w) (Nat.le_refl _) _).drew
    have b2 : Below mb w (((w.setCell ⟨mb, 2 + q, none⟩ (.int .u32 (clrW W p))).drew.setCell ⟨mb, 2 + q, none⟩ (.int .u32 (clrW W p ||| 2 ^ p : Nat)))).drew := (Below.setCell (p := ⟨mb, 2 + q, none⟩) b1 (Nat.le_refl _) _).drew
    have HE : (Ending.returned (.tuple #[])) = Ending.returned (.tuple #[]) ∧ SetX w (((w.setCell ⟨mb, 2 + q, none⟩ (.int .u32 (clrW W p))).drew.setCell ⟨mb, 2 + q, none⟩ (.int .u32 (clrW W p ||| 2 ^ p : Nat)))).drew mb a b g q p true := ⟨rfl, by rw [HU.out]; exact h2.out, b2, fun k hk => (Below.heap_setCell (w.setCell ⟨mb, 2 + q, none⟩ (.int .u32 (clrW W p))).drew ⟨mb, 2 + q, none⟩ _ k hk).trans (Below.heap_setCell w ⟨mb, 2 + q, none⟩ _ k hk), by simp⟩
    have HE' := Lib.hid HE
    have cq2 : (w.setCell ⟨mb, 2 + q, none⟩ (.int .u32 (clrW W p))).drew.cell? ⟨mb, 2 + q, none⟩ = some (.int .u32 (clrW W p)) := by
      show (w.setCell ⟨mb, 2 + q, none⟩ (.int .u32 (clrW W p))).cell? ⟨mb, 2 + q, none⟩ = _
      rw [Joins.cell_of_block h1.out (2 + q)]
      have := mcells_word a b (fun j => ((if j = q then clrW W p else g j : Nat) : Int)) q hq
      unfold mat
      rw [this, if_pos rfl]
    have fz2 : (w.setCell ⟨mb, 2 + q, none⟩ (.int .u32 (clrW W p))).drew.frozen? ⟨mb, 2 + q, none⟩ = false := by
      show (w.setCell ⟨mb, 2 + q, none⟩ (.int .u32 (clrW W p))).frozen? ⟨mb, 2 + q, none⟩ = false
      have := h1.out
      simp [World.frozen?, this]
    clear HE b1 b2
    go_enter Tryd.func75, Tryd.ntmps75
    go_wp2
    go_region
    obtain ⟨w1, hw1⟩ : ∃ w1, (w.setCell ⟨mb, 2 + q, none⟩ (.int .u32 (clrW W p))).drew = w1 := ⟨_, rfl⟩
    rw [hw1] at cq2 fz2 HE' ⊢
    clear hw1 cq fz h1 h2
    go_wp2
    go_region
    go_wp2
    go_end0
    exact ⟨rfl, HE'.out.2⟩

set_option maxHeartbeats 1000000 in
theorem atG_at (b off n cap a b2 o2 cy x y : Nat) (w : World) (hx : x < a) (hy : y < n) (h1 : w.cell? ⟨b, off + y, none⟩ = some (.slice (some ⟨b2, o2, none⟩) a cy)) :
    Calls Tryd.prog 97 #[.slice (some ⟨b, off, none⟩) n cap, .agg #[.int .i64 x, .int .i64 y]] w (fun e w' => e = .returned (.pointer (some ⟨b2, o2 + x, none⟩)) ∧ Below w.heap.size w w') := by
  have kx : (x : Int) < (a : Int) := by omega
  have ky : (y : Int) < (n : Int) := by omega
  have h1a : (w.alloc (.cells #[.int .i64 x, .int .i64 y] 93)).cell? ⟨b, off + y, none⟩ = some (.slice (some ⟨b2, o2, none⟩) a cy) := cell_kept (Joins.below_alloc1 _ _) h1
  clear h1
  go_enter Tryd.func97, Tryd.ntmps97
  go_wp2_with fail
  go_quiet (fail)
  go_wp2
  go_ret
  exact ⟨rfl, (Joins.below_alloc1 w _).trans (Joins.below_draws w.heap.size _ _)⟩
end Go.Proofs.YtnmnlbgialolhaaDoor

/- Contracts of single functions, and plain lemmas, on which the exact laws of this seat rest; each holds under the conditions that it states. -/
namespace Go.Proofs.YtnmnlbgialolhaaDoor
set_option linter.unusedVariables false
set_option linter.unusedSimpArgs false
open Go.RowKit
attribute [local go_sem] Oper.semAt_some

/-- of the three pixels before this one, an odd number is black -/
def oddB (a b : Nat) (g : Nat → Nat) (x y : Int) : Bool := (blackB a b g (x - 1) y != blackB a b g x (y - 1)) != blackB a b g (x - 1) (y - 1)

set_option maxHeartbeats 4000000 in
set_option maxRecDepth 100000 in
theorem isOdd_any (C : Array Value) (a b : Nat) (g : Nat → Nat) (x y : Int) (w : World) (hC : C = mat a b g) (ha : a ≤ 16) (hb : b ≤ 16) (hg : ∀ j, g j < 4294967296) (hx : 0 ≤ x ∧ x ≤ 16) (hy : 0 ≤ y ∧ y ≤ 16) :
    Calls Tryd.prog 91 #[.agg C, .agg #[.int .i64 x, .int .i64 y]] w (SaysB (oddB a b g x y) w) := by
  have c1 : Hid (∀ W, Calls Tryd.prog 90 #[.agg C, .int .i64 (x - 1), .int .i64 y] W (SaysB (blackB a b g (x - 1) y) W)) := fun W => black_any C a b g (x - 1) y W hC ha hb hg
  have c2 : Hid (∀ W, Calls Tryd.prog 90 #[.agg C, .int .i64 x, .int .i64 (y - 1)] W (SaysB (blackB a b g x (y - 1)) W)) := fun W => black_any C a b g x (y - 1) W hC ha hb hg
  have c3 : Hid (∀ W, Calls Tryd.prog 90 #[.agg C, .int .i64 (x - 1), .int .i64 (y - 1)] W (SaysB (blackB a b g (x - 1) (y - 1)) W)) := fun W => black_any C a b g (x - 1) (y - 1) W hC ha hb hg
  have HV : Hid (oddB a b g x y = (!((!(blackB a b g (x - 1) y == blackB a b g x (y - 1))) == blackB a b g (x - 1) (y - 1)))) := rfl
  obtain ⟨p1, h1⟩ : ∃ t, blackB a b g (x - 1) y = t := ⟨_, rfl⟩
  obtain ⟨p2, h2⟩ : ∃ t, blackB a b g x (y - 1) = t := ⟨_, rfl⟩
  obtain ⟨p3, h3⟩ : ∃ t, blackB a b g (x - 1) (y - 1) = t := ⟨_, rfl⟩
  rw [h1] at c1 HV
  rw [h2] at c2 HV
  rw [h3] at c3 HV
  have C1 := c1
  have C2 := c2
  have C3 := c3
  have hsz : C.size = 18 := by rw [hC]; rfl
  have HI : Hid ((Tryd.prog.info? 63).map (·.size) = some C.size) := by show _ = _; rw [hsz]; exact infoM
  obtain ⟨W0, hW0⟩ : ∃ W0, (w.alloc (.cells C 63)).alloc (.cells #[.int .i64 x, .int .i64 y] 93) = W0 := ⟨_, rfl⟩
  have hb0 : Below w.heap.size w W0 := by rw [← hW0]; exact Joins.below_alloc2 _ _ _
  have p0 : W0.heap[w.heap.size]? = some (.cells C 63 (0, 0)) := by
    rw [← hW0, Below.heap_alloc _ _ _ (by first | (simp; done) | (simp; omega))]; exact heap_alloc_last w _
  have ps : W0.heap[w.heap.size + 1]? = some (.cells #[.int .i64 x, .int .i64 y] 93 (0, 0)) := by
    rw [← hW0]
    exact heap_alloc2_new _ _ _
  have HMx : Hid (∀ W, Below W0.heap.size W0 W → W.heap[w.heap.size]? = some (.cells C 63 (0, 0))) := fun W hb => (hb.block _ (Array.getElem?_eq_some_iff.1 p0).1).trans p0
  have HSp : Hid (∀ W, Below W0.heap.size W0 W → W.cell? ⟨w.heap.size + 1, 0, none⟩ = some (.int .i64 x) ∧ W.cell? ⟨w.heap.size + 1, 1, none⟩ = some (.int .i64 y)) := fun W hb => ⟨cell_kept hb (by rw [Joins.cell_of_block ps 0]; rfl), cell_kept hb (by rw [Joins.cell_of_block ps 1]; rfl)⟩
  have kw1 : IntKind.i64.wrap (x - 1) = x - 1 := IntWalk.i64_in _ (by omega)
  have kw2 : IntKind.i64.wrap (y - 1) = y - 1 := IntWalk.i64_in _ (by omega)
  have HW := Lib.hid hW0
  have HB0 := Lib.hid hb0
  clear c1 c2 c3 h1 h2 h3 hC hsz hb0 hW0 p0 ps hg
  go_enter Tryd.func91, Tryd.ntmps91
  go_upto_region 1 with fail
  rw [HW.out]
  refine wp_region_inv_at (by kernel_rfl) (fun A0 L A W => ∃ (b0 b1 b2 b3 b4 b5 b6 b7 b8 b9 b10 b11 b12 b13 b14 b15 : Bool) (v6 v7 v8 v9 v10 v11 v12 v13 v14 v15 v16 v17 v18 v19 v20 v5 : Value), L = #[b0, b1, b2, b3, b4, b5, b6, b7, b8, b9, b10, b11, b12, b13, b14, b15] ∧ A = ((((((((((((((((A0.put (some 6) v6).put (some 7) v7).put (some 8) v8).put (some 9) v9).put (some 10) v10).put (some 11) v11).put (some 12) v12).put (some 13) v13).put (some 14) v14).put (some 15) v15).put (some 16) v16).put (some 17) v17).put (some 18) v18).put (some 19) v19).put (some 20) v20).put (some 5) v5) ∧ (Below W0.heap.size W0 W) ∧ Hid (b0 = true → v6 = .agg C) ∧ Hid (b1 = true → v7 = .pointer (some ⟨w.heap.size + 1, 0, none⟩)) ∧ Hid (b2 = true → v8 = .int .i64 x) ∧ Hid (b3 = true → v9 = .int .i64 (x - 1)) ∧ Hid (b4 = true → v10 = .pointer (some ⟨w.heap.size + 1, 1, none⟩)) ∧ Hid (b5 = true → v11 = .int .i64 y) ∧ Hid (b6 = true → v12 = .bool p1) ∧ Hid (b7 = true → v13 = .agg C) ∧ Hid (b8 = true → v14 = .pointer (some ⟨w.heap.size + 1, 0, none⟩)) ∧ Hid (b9 = true → v15 = .int .i64 x) ∧ Hid (b10 = true → v16 = .pointer (some ⟨w.heap.size + 1, 1, none⟩)) ∧ Hid (b11 = true → v17 = .int .i64 y) ∧ Hid (b12 = true → v18 = .int .i64 (y - 1)) ∧ Hid (b13 = true → v19 = .bool p2) ∧ Hid (b14 = true → v20 = .bool (!(p1 == p2))) ∧ Hid (b15 = true → v5 = .bool (!(p1 == p2)))) ?_ ?_ ?_
  · intro A0
    refine ⟨false, false, false, false, false, false, false, false, false, false, false, false, false, false, false, false, A0.tmps.getD 6 undef, A0.tmps.getD 7 undef, A0.tmps.getD 8 undef, A0.tmps.getD 9 undef, A0.tmps.getD 10 undef, A0.tmps.getD 11 undef, A0.tmps.getD 12 undef, A0.tmps.getD 13 undef, A0.tmps.getD 14 undef, A0.tmps.getD 15 undef, A0.tmps.getD 16 undef, A0.tmps.getD 17 undef, A0.tmps.getD 18 undef, A0.tmps.getD 19 undef, A0.tmps.getD 20 undef, A0.tmps.getD 5 undef, rfl, (by simp only [put_self]), (Below.refl _ _).drew, Lib.hid (fun hf => by cases hf), Lib.hid (fun hf => by cases hf), Lib.hid (fun hf => by cases hf), Lib.hid (fun hf => by cases hf), Lib.hid (fun hf => by cases hf), Lib.hid (fun hf => by cases hf), Lib.hid (fun hf => by cases hf), Lib.hid (fun hf => by cases hf), Lib.hid (fun hf => by cases hf), Lib.hid (fun hf => by cases hf), Lib.hid (fun hf => by cases hf), Lib.hid (fun hf => by cases hf), Lib.hid (fun hf => by cases hf), Lib.hid (fun hf => by cases hf), Lib.hid (fun hf => by cases hf), Lib.hid (fun hf => by cases hf)⟩
  · intro L A W hI i hi o ho K' hK
    have hlt := (ready_left hi).1
    have hun := (ready_left hi).2
    have haf := ready_after hi ho
    clear hi
    obtain ⟨b0, b1, b2, b3, b4, b5, b6, b7, b8, b9, b10, b11, b12, b13, b14, b15, v6, v7, v8, v9, v10, v11, v12, v13, v14, v15, v16, v17, v18, v19, v20, v5, rfl, rfl, hB, h0, h1, h2, h3, h4, h5, h6, h7, h8, h9, h10, h11, h12, h13, h14, h15⟩ := hI
    have hc : i = 0 ∨ i = 1 ∨ i = 2 ∨ i = 3 ∨ i = 4 ∨ i = 5 ∨ i = 6 ∨ i = 7 ∨ i = 8 ∨ i = 9 ∨ i = 10 ∨ i = 11 ∨ i = 12 ∨ i = 13 ∨ i = 14 ∨ i = 15 := by
      simp at hlt
      omega
    have qM := HMx.out W hB
    have q0 := (HSp.out W hB).1
    have q1 := (HSp.out W hB).2
    rcases hc with rfl | rfl | rfl | rfl | rfl | rfl | rfl | rfl | rfl | rfl | rfl | rfl | rfl | rfl | rfl | rfl
    all_goals (obtain rfl := Option.some.inj ho; clear ho; simp [Region.binds] at haf hun; (try simp only [List.getElem_toArray, List.getElem_cons_zero, List.getElem_cons_succ]); simp only [Act.put, List.setIfInBounds_toArray, List.set_cons_zero, List.set_cons_succ])
    · -- operation 0
      replace hK := Lib.hid hK
      subst hun
      rw [if_pos (by simp [Region.wanted])]
      refine wp_load_row 63 _ rfl w.heap.size rfl 63 C (0, 0) _ qM Tryd.underlying63 rfl HI.out ?_
      exact hK.out _ _ ⟨true, b1, b2, b3, b4, b5, b6, b7, b8, b9, b10, b11, b12, b13, b14, b15, .agg C, v7, v8, v9, v10, v11, v12, v13, v14, v15, v16, v17, v18, v19, v20, v5, rfl, (by simp only [Act.put, List.setIfInBounds_toArray, List.set_cons_zero, List.set_cons_succ]), hB, Lib.hid (fun _ => rfl), h1, h2, h3, h4, h5, h6, h7, h8, h9, h10, h11, h12, h13, h14, h15⟩
    · -- operation 1
      replace hK := Lib.hid hK
      subst hun
      go_simp
      exact hK.out _ _ ⟨b0, true, b2, b3, b4, b5, b6, b7, b8, b9, b10, b11, b12, b13, b14, b15, v6, .pointer (some ⟨w.heap.size + 1, 0, none⟩), v8, v9, v10, v11, v12, v13, v14, v15, v16, v17, v18, v19, v20, v5, rfl, (by simp only [Act.put, List.setIfInBounds_toArray, List.set_cons_zero, List.set_cons_succ]), hB, h0, Lib.hid (fun _ => rfl), h2, h3, h4, h5, h6, h7, h8, h9, h10, h11, h12, h13, h14, h15⟩
    · -- operation 2
      replace hK := Lib.hid hK
      obtain rfl := (h1.out (by simp only [haf])).symm
      subst hun
      go_simp
      exact hK.out _ _ ⟨b0, b1, true, b3, b4, b5, b6, b7, b8, b9, b10, b11, b12, b13, b14, b15, v6, .pointer (some ⟨w.heap.size + 1, 0, none⟩), .int .i64 x, v9, v10, v11, v12, v13, v14, v15, v16, v17, v18, v19, v20, v5, rfl, (by simp only [Act.put, List.setIfInBounds_toArray, List.set_cons_zero, List.set_cons_succ]), hB, h0, Lib.hid (fun _ => rfl), Lib.hid (fun _ => rfl), h3, h4, h5, h6, h7, h8, h9, h10, h11, h12, h13, h14, h15⟩
    · -- operation 3
      replace hK := Lib.hid hK
      obtain rfl := (h2.out (by simp only [haf])).symm
      subst hun
      go_simp
      exact hK.out _ _ ⟨b0, b1, b2, true, b4, b5, b6, b7, b8, b9, b10, b11, b12, b13, b14, b15, v6, v7, .int .i64 x, .int .i64 (x - 1), v10, v11, v12, v13, v14, v15, v16, v17, v18, v19, v20, v5, rfl, (by simp only [Act.put, List.setIfInBounds_toArray, List.set_cons_zero, List.set_cons_succ]), hB, h0, h1, Lib.hid (fun _ => rfl), Lib.hid (fun _ => rfl), h4, h5, h6, h7, h8, h9, h10, h11, h12, h13, h14, h15⟩
    · -- operation 4
      replace hK := Lib.hid hK
      subst hun
      go_simp
      exact hK.out _ _ ⟨b0, b1, b2, b3, true, b5, b6, b7, b8, b9, b10, b11, b12, b13, b14, b15, v6, v7, v8, v9, .pointer (some ⟨w.heap.size + 1, 1, none⟩), v11, v12, v13, v14, v15, v16, v17, v18, v19, v20, v5, rfl, (by simp only [Act.put, List.setIfInBounds_toArray, List.set_cons_zero, List.set_cons_succ]), hB, h0, h1, h2, h3, Lib.hid (fun _ => rfl), h5, h6, h7, h8, h9, h10, h11, h12, h13, h14, h15⟩
    · -- operation 5
      replace hK := Lib.hid hK
      obtain rfl := (h4.out (by simp only [haf])).symm
      subst hun
      go_simp
      exact hK.out _ _ ⟨b0, b1, b2, b3, b4, true, b6, b7, b8, b9, b10, b11, b12, b13, b14, b15, v6, v7, v8, v9, .pointer (some ⟨w.heap.size + 1, 1, none⟩), .int .i64 y, v12, v13, v14, v15, v16, v17, v18, v19, v20, v5, rfl, (by simp only [Act.put, List.setIfInBounds_toArray, List.set_cons_zero, List.set_cons_succ]), hB, h0, h1, h2, h3, Lib.hid (fun _ => rfl), Lib.hid (fun _ => rfl), h6, h7, h8, h9, h10, h11, h12, h13, h14, h15⟩
    · -- operation 6
      replace hK := Lib.hid hK
      obtain rfl := (h0.out (by simp only [haf])).symm
      obtain rfl := (h3.out (by simp only [haf])).symm
      obtain rfl := (h5.out (by simp only [haf])).symm
      subst hun
      go_simp
      refine (C1.out W).mono ?_
      rintro e W' ⟨rfl, hb⟩
      have hkept := fun kb (hk : kb < W.heap.size) => hb.block kb hk
      exact hK.out _ _ ⟨b0, b1, b2, b3, b4, b5, true, b7, b8, b9, b10, b11, b12, b13, b14, b15, .agg C, v7, v8, .int .i64 (x - 1), v10, .int .i64 y, .bool p1, v13, v14, v15, v16, v17, v18, v19, v20, v5, rfl, (by simp only [Act.put, List.setIfInBounds_toArray, List.set_cons_zero, List.set_cons_succ]), hB.trans (hb.mono hB.size), Lib.hid (fun _ => rfl), h1, h2, Lib.hid (fun _ => rfl), h4, Lib.hid (fun _ => rfl), Lib.hid (fun _ => rfl), h7, h8, h9, h10, h11, h12, h13, h14, h15⟩
    · -- operation 7
      replace hK := Lib.hid hK
      subst hun
      rw [if_pos (by simp [Region.wanted])]
      refine wp_load_row 63 _ rfl w.heap.size rfl 63 C (0, 0) _ qM Tryd.underlying63 rfl HI.out ?_
      exact hK.out _ _ ⟨b0, b1, b2, b3, b4, b5, b6, true, b8, b9, b10, b11, b12, b13, b14, b15, v6, v7, v8, v9, v10, v11, v12, .agg C, v14, v15, v16, v17, v18, v19, v20, v5, rfl, (by simp only [Act.put, List.setIfInBounds_toArray, List.set_cons_zero, List.set_cons_succ]), hB, h0, h1, h2, h3, h4, h5, h6, Lib.hid (fun _ => rfl), h8, h9, h10, h11, h12, h13, h14, h15⟩
    · -- operation 8
      replace hK := Lib.hid hK
      subst hun
      go_simp
      exact hK.out _ _ ⟨b0, b1, b2, b3, b4, b5, b6, b7, true, b9, b10, b11, b12, b13, b14, b15, v6, v7, v8, v9, v10, v11, v12, v13, .pointer (some ⟨w.heap.size + 1, 0, none⟩), v15, v16, v17, v18, v19, v20, v5, rfl, (by simp only [Act.put, List.setIfInBounds_toArray, List.set_cons_zero, List.set_cons_succ]), hB, h0, h1, h2, h3, h4, h5, h6, h7, Lib.hid (fun _ => rfl), h9, h10, h11, h12, h13, h14, h15⟩
    · -- operation 9
      replace hK := Lib.hid hK
      obtain rfl := (h8.out (by simp only [haf])).symm
      subst hun
      go_simp
      exact hK.out _ _ ⟨b0, b1, b2, b3, b4, b5, b6, b7, b8, true, b10, b11, b12, b13, b14, b15, v6, v7, v8, v9, v10, v11, v12, v13, .pointer (some ⟨w.heap.size + 1, 0, none⟩), .int .i64 x, v16, v17, v18, v19, v20, v5, rfl, (by simp only [Act.put, List.setIfInBounds_toArray, List.set_cons_zero, List.set_cons_succ]), hB, h0, h1, h2, h3, h4, h5, h6, h7, Lib.hid (fun _ => rfl), Lib.hid (fun _ => rfl), h10, h11, h12, h13, h14, h15⟩
    · -- operation 10
      replace hK := Lib.hid hK
      subst hun
      go_simp
      exact hK.out _ _ ⟨b0, b1, b2, b3, b4, b5, b6, b7, b8, b9, true, b11, b12, b13, b14, b15, v6, v7, v8, v9, v10, v11, v12, v13, v14, v15, .pointer (some ⟨w.heap.size + 1, 1, none⟩), v17, v18, v19, v20, v5, rfl, (by simp only [Act.put, List.setIfInBounds_toArray, List.set_cons_zero, List.set_cons_succ]), hB, h0, h1, h2, h3, h4, h5, h6, h7, h8, h9, Lib.hid (fun _ => rfl), h11, h12, h13, h14, h15⟩
    · -- operation 11
      replace hK := Lib.hid hK
      obtain rfl := (h10.out (by simp only [haf])).symm
      subst hun
      go_simp
      exact hK.out _ _ ⟨b0, b1, b2, b3, b4, b5, b6, b7, b8, b9, b10, true, b12, b13, b14, b15, v6, v7, v8, v9, v10, v11, v12, v13, v14, v15, .pointer (some ⟨w.heap.size + 1, 1, none⟩), .int .i64 y, v18, v19, v20, v5, rfl, (by simp only [Act.put, List.setIfInBounds_toArray, List.set_cons_zero, List.set_cons_succ]), hB, h0, h1, h2, h3, h4, h5, h6, h7, h8, h9, Lib.hid (fun _ => rfl), Lib.hid (fun _ => rfl), h12, h13, h14, h15⟩
    · -- operation 12
      replace hK := Lib.hid hK
      obtain rfl := (h11.out (by simp only [haf])).symm
      subst hun
      go_simp
      exact hK.out _ _ ⟨b0, b1, b2, b3, b4, b5, b6, b7, b8, b9, b10, b11, true, b13, b14, b15, v6, v7, v8, v9, v10, v11, v12, v13, v14, v15, v16, .int .i64 y, .int .i64 (y - 1), v19, v20, v5, rfl, (by simp only [Act.put, List.setIfInBounds_toArray, List.set_cons_zero, List.set_cons_succ]), hB, h0, h1, h2, h3, h4, h5, h6, h7, h8, h9, h10, Lib.hid (fun _ => rfl), Lib.hid (fun _ => rfl), h13, h14, h15⟩
    · -- operation 13
      replace hK := Lib.hid hK
      obtain rfl := (h7.out (by simp only [haf])).symm
      obtain rfl := (h9.out (by simp only [haf])).symm
      obtain rfl := (h12.out (by simp only [haf])).symm
      subst hun
      go_simp
      refine (C2.out W).mono ?_
      rintro e W' ⟨rfl, hb⟩
      have hkept := fun kb (hk : kb < W.heap.size) => hb.block kb hk
      exact hK.out _ _ ⟨b0, b1, b2, b3, b4, b5, b6, b7, b8, b9, b10, b11, b12, true, b14, b15, v6, v7, v8, v9, v10, v11, v12, .agg C, v14, .int .i64 x, v16, v17, .int .i64 (y - 1), .bool p2, v20, v5, rfl, (by simp only [Act.put, List.setIfInBounds_toArray, List.set_cons_zero, List.set_cons_succ]), hB.trans (hb.mono hB.size), h0, h1, h2, h3, h4, h5, h6, Lib.hid (fun _ => rfl), h8, Lib.hid (fun _ => rfl), h10, h11, Lib.hid (fun _ => rfl), Lib.hid (fun _ => rfl), h14, h15⟩
    · -- operation 14
      replace hK := Lib.hid hK
      obtain rfl := (h6.out (by simp only [haf])).symm
      obtain rfl := (h13.out (by simp only [haf])).symm
      subst hun
      go_simp
      exact hK.out _ _ ⟨b0, b1, b2, b3, b4, b5, b6, b7, b8, b9, b10, b11, b12, b13, true, b15, v6, v7, v8, v9, v10, v11, .bool p1, v13, v14, v15, v16, v17, v18, .bool p2, .bool (!(p1 == p2)), v5, rfl, (by simp only [Act.put, List.setIfInBounds_toArray, List.set_cons_zero, List.set_cons_succ]), hB, h0, h1, h2, h3, h4, h5, Lib.hid (fun _ => rfl), h7, h8, h9, h10, h11, h12, Lib.hid (fun _ => rfl), Lib.hid (fun _ => rfl), h15⟩
    · -- operation 15
      replace hK := Lib.hid hK
      obtain rfl := (h14.out (by simp only [haf])).symm
      subst hun
      go_simp
      exact hK.out _ _ ⟨b0, b1, b2, b3, b4, b5, b6, b7, b8, b9, b10, b11, b12, b13, b14, true, v6, v7, v8, v9, v10, v11, v12, v13, v14, v15, v16, v17, v18, v19, .bool (!(p1 == p2)), .bool (!(p1 == p2)), rfl, (by simp only [Act.put, List.setIfInBounds_toArray, List.set_cons_zero, List.set_cons_succ]), hB, h0, h1, h2, h3, h4, h5, h6, h7, h8, h9, h10, h11, h12, h13, Lib.hid (fun _ => rfl), Lib.hid (fun _ => rfl)⟩
  intro L A W hI hr
  obtain ⟨b0, b1, b2, b3, b4, b5, b6, b7, b8, b9, b10, b11, b12, b13, b14, b15, v6, v7, v8, v9, v10, v11, v12, v13, v14, v15, v16, v17, v18, v19, v20, v5, rfl, rfl, hB, h0, h1, h2, h3, h4, h5, h6, h7, h8, h9, h10, h11, h12, h13, h14, h15⟩ := hI
  have d0 := ready_done hr 0 _ rfl (by simp [Region.binds])
  simp at d0
  subst d0
  have d1 := ready_done hr 1 _ rfl (by simp [Region.binds])
  simp at d1
  subst d1
  have d2 := ready_done hr 2 _ rfl (by simp [Region.binds])
  simp at d2
  subst d2
  have d3 := ready_done hr 3 _ rfl (by simp [Region.binds])
  simp at d3
  subst d3
  have d4 := ready_done hr 4 _ rfl (by simp [Region.binds])
  simp at d4
  subst d4
  have d5 := ready_done hr 5 _ rfl (by simp [Region.binds])
  simp at d5
  subst d5
  have d6 := ready_done hr 6 _ rfl (by simp [Region.binds])
  simp at d6
  subst d6
  have d7 := ready_done hr 7 _ rfl (by simp [Region.binds])
  simp at d7
  subst d7
  have d8 := ready_done hr 8 _ rfl (by simp [Region.binds])
  simp at d8
  subst d8
  have d9 := ready_done hr 9 _ rfl (by simp [Region.binds])
  simp at d9
  subst d9
  have d10 := ready_done hr 10 _ rfl (by simp [Region.binds])
  simp at d10
  subst d10
  have d11 := ready_done hr 11 _ rfl (by simp [Region.binds])
  simp at d11
  subst d11
  have d12 := ready_done hr 12 _ rfl (by simp [Region.binds])
  simp at d12
  subst d12
  have d13 := ready_done hr 13 _ rfl (by simp [Region.binds])
  simp at d13
  subst d13
  have d14 := ready_done hr 14 _ rfl (by simp [Region.binds])
  simp at d14
  subst d14
  have d15 := ready_done hr 15 _ rfl (by simp [Region.binds])
  simp at d15
  subst d15
  obtain rfl := (h0.out rfl).symm
  obtain rfl := (h1.out rfl).symm
  obtain rfl := (h2.out rfl).symm
  obtain rfl := (h3.out rfl).symm
  obtain rfl := (h4.out rfl).symm
  obtain rfl := (h5.out rfl).symm
  obtain rfl := (h6.out rfl).symm
  obtain rfl := (h7.out rfl).symm
  obtain rfl := (h8.out rfl).symm
  obtain rfl := (h9.out rfl).symm
  obtain rfl := (h10.out rfl).symm
  obtain rfl := (h11.out rfl).symm
  obtain rfl := (h12.out rfl).symm
  obtain rfl := (h13.out rfl).symm
  obtain rfl := (h14.out rfl).symm
  obtain rfl := (h15.out rfl).symm
  simp only [Act.put, List.setIfInBounds_toArray, List.set_cons_zero, List.set_cons_succ]
  clear hr h0 h1 h2 h3 h4 h5 h6 h7 h8 h9 h10 h11 h12 h13 h14 h15
  have HB1 := Lib.hid hB
  have qM := HMx.out W hB
  have q0 := (HSp.out W hB).1
  have q1 := (HSp.out W hB).2
  clear hB
  go_wp2_with (refine wpList_load_row rfl 63 _ rfl w.heap.size rfl 63 C (0, 0) _ qM Tryd.underlying63 rfl HI.out ?_)
  refine (C3.out _).mono ?_
  rintro e w1 ⟨rfl, hb1⟩
  have HB2 := Lib.hid (HB0.out.trans ((HB1.out.trans (hb1.mono HB1.out.size)).mono HB0.out.size))
  clear hb1 q0 q1 qM
  go_wp2_with fail
  go_ret
  exact ⟨by rw [HV.out]; rfl, HB2.out⟩
end Go.Proofs.YtnmnlbgialolhaaDoor
