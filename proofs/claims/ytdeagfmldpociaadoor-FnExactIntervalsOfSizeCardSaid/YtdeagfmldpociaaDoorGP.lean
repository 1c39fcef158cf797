/- Contracts of single functions, and plain lemmas, on which the exact laws of this seat rest; each holds under the conditions that it states. -/
import Derived.Test.YtdeagfmldpociaaDoorGD
import Derived.Test.YtdeagfmldpociaaDoorSc
import Derived.Test.YtdeagfmldpociaaDoorPb
import Derived.Test.YtdeagfmldpociaaDoorMw
import Derived.Test.YtdeagfmldpociaaDoorGL
import Derived.Test.YtdeagfmldpociaaDoorS2
import Derived.Test.YtdeagfmldpociaaDoorTd
import Derived.Test.YtdeagfmldpociaaDoorRt
namespace Go.Proofs.YtdeagfmldpociaaDoor
set_option linter.unusedVariables false
set_option linter.unusedSimpArgs false
open Go.RowKit

/-! ### the numbers of a grey picture as one list -/
def flG (gs : List (List Int)) : Nat → List Int
  | 0 => []
  | k + 1 => flG gs k ++ rowF gs k
theorem flG_len {m : Int} {gs : List (List Int)} (V : VG m gs) : ∀ k, k ≤ gs.length → (flG gs k).length = k * (rowF gs 0).length
  | 0, _ => by simp [flG]
  | k + 1, h => by
    have h1 := V.len k (by omega)
    rw [flG, List.length_append, flG_len V k (by omega), h1, Nat.add_mul, Nat.one_mul]
theorem flG_at {m : Int} {gs : List (List Int)} (V : VG m gs) (y x : Nat) (hx : x < (rowF gs 0).length) : ∀ k, k ≤ gs.length → y < k → (flG gs k).getD (y * (rowF gs 0).length + x) 0 = (rowF gs y).getD x 0
  | 0, _, h => absurd h (Nat.not_lt_zero _)
  | k + 1, hk, h => by
    have hl := flG_len V k (by omega)
    have h1 := V.len k (by omega)
    rw [flG, List.getD_eq_getElem?_getD, List.getElem?_append, hl]
    by_cases e : y < k
    · have : (y + 1) * (rowF gs 0).length ≤ k * (rowF gs 0).length := Nat.mul_le_mul e (Nat.le_refl _)
      rw [Nat.add_mul, Nat.one_mul] at this
      rw [if_pos (by omega), ← List.getD_eq_getElem?_getD]
      exact flG_at V y x hx k (by omega) e
    · obtain rfl : y = k := by omega
      rw [if_neg (by omega), Nat.add_sub_cancel_left, ← List.getD_eq_getElem?_getD]

end Go.Proofs.YtdeagfmldpociaaDoor

/- Contracts of single functions, and plain lemmas, on which the exact laws of this seat rest; each holds under the conditions that it states. -/
namespace Go.Proofs.YtdeagfmldpociaaDoor
set_option linter.unusedVariables false
set_option linter.unusedSimpArgs false
open Go.RowKit

/-! ### the picture of what is at least a level -/
def thF (gs : List (List Int)) (lv : Int) (y x : Nat) : Bool := decide (lv ≤ (rowF gs y).getD x 0)
/-- the first k numbers that are at least a level -/
def thB (L : List Int) (lv : Int) (k : Nat) : List Bool := (List.range k).map fun j => decide (lv ≤ L.getD j 0)
theorem thB_len (L : List Int) (lv : Int) (k : Nat) : (thB L lv k).length = k := by simp [thB]
theorem thB_snoc (L : List Int) (lv : Int) (k : Nat) : boolV (thB L lv (k + 1)) = boolV (thB L lv k) ++ [.bool (decide (lv ≤ L.getD k 0))] := by
  simp [thB, boolV, List.range_succ]
theorem thB_pic {m : Int} {gs : List (List Int)} (V : VG m gs) (lv : Int) : mkPic (rowF gs 0).length gs.length (fun y x => (thB (flG gs gs.length) lv ((rowF gs 0).length * gs.length)).getD (y * (rowF gs 0).length + x) false) = mkPic (rowF gs 0).length gs.length (thF gs lv) :=
  mkPic_congr fun y hy x hx => by
    have : (y + 1) * (rowF gs 0).length ≤ gs.length * (rowF gs 0).length := Nat.mul_le_mul hy (Nat.le_refl _)
    rw [Nat.add_mul, Nat.one_mul, Nat.mul_comm gs.length] at this
    have hlt : y * (rowF gs 0).length + x < (rowF gs 0).length * gs.length := by omega
    rw [List.getD_eq_getElem?_getD]
    unfold thB thF
    rw [List.getElem?_map, List.getElem?_range hlt]
    show decide (lv ≤ (flG gs gs.length).getD (y * (rowF gs 0).length + x) 0) = _
    rw [flG_at V y x hx gs.length (Nat.le_refl _) hy]
theorem own_ne2 {w : World} {base n : Nat} {e t : TypeId} {s P : Nat} {v : Value} {xs : List Value} {cs : Array Value} {o : Nat × Nat} (h : w.ownsRow base e s v n xs) (hP : w.heap[P]? = some (.cells cs t o)) (he : t ≠ e) : v.ownBlock ≠ some P := by
  rcases h.2 with ⟨hv, _⟩ | ⟨g, cap, cur, hv, _, hg, _⟩
  · subst hv; simp [Value.ownBlock]
  · subst hv
    simp only [Value.ownBlock]
    intro e1
    have e1 := Option.some.inj e1
    subst e1
    rw [hg] at hP
    injection hP with hP
    injection hP with _ h2
    exact he h2.symm
/-- a row of numbers, by its block alone -/
theorem OwnN.blk {w : World} {base g cap : Nat} {ns : List Int} (h : OwnN w base (.slice (some ⟨g, 0, none⟩) ns.length cap) ns) : ∃ (cur : Array Value) (o : Nat × Nat), w.heap[g]? = some (.cells cur 2 o) ∧ ∀ j, j < ns.length → cur[j]? = some (.int .i64 (ns.getD j 0)) := by
  have hcell : ∀ j, j < ns.length → w.cell? ⟨g, j, none⟩ = some (.int .i64 (ns.getD j 0)) := fun j hj => by
    have := World.ownsRow.cellAt (h : w.ownsRow base 2 1 _ ns.length (numsV ns)) j (by omega)
    rw [this]
    unfold numsV
    rw [List.getElem?_map, List.getElem?_eq_getElem hj, List.getD_eq_getElem?_getD, List.getElem?_eq_getElem hj]
    rfl
  rcases h.2 with ⟨hv, _⟩ | ⟨g2, cap2, cur, hv, _, hg, _⟩
  · cases hv
  · injection hv with hv
    obtain rfl : g = g2 := by injection hv with hv; injection hv
    refine ⟨cur, _, hg, fun j hj => ?_⟩
    have := hcell j hj
    rw [Joins.cell_of_block hg j] at this
    exact this

end Go.Proofs.YtdeagfmldpociaaDoor

/- Contracts of single functions, and plain lemmas, on which the exact laws of this seat rest; each holds under the conditions that it states. -/
namespace Go.Proofs.YtdeagfmldpociaaDoor
set_option linter.unusedVariables false
set_option linter.unusedSimpArgs false
open Go.RowKit

/-! ### the pixels of a picture that is being made, spot by spot -/
def InG (a b : Nat) (q : Int × Int) : Prop := (0 ≤ q.1 ∧ q.1 < (a : Int)) ∧ (0 ≤ q.2 ∧ q.2 < (b : Int))
def gGrid (a b : Nat) (ha : 0 < a) (hb : 0 < b) : Grid (InG a b) := ⟨a, b, 0, ha, hb, fun x y hx hy => by
  show (0 ≤ (x : Int) - ((0 : Nat) : Int) ∧ (x : Int) - ((0 : Nat) : Int) < (a : Int)) ∧ (0 ≤ (y : Int) - ((0 : Nat) : Int) ∧ (y : Int) - ((0 : Nat) : Int) < (b : Int))
  omega⟩
def dnG {a b : Nat} (f : Nat → Nat → Bool) (pre : List { q : Int × Int // InG a b q }) : Nat → Nat := pre.foldl (fun g x => updG g x.1.2.toNat x.1.1.toNat (f x.1.2.toNat x.1.1.toNat)) (fun _ => 0)
theorem dn_snoc {a b : Nat} (f : Nat → Nat → Bool) (pre : List { q : Int × Int // InG a b q }) (x : { q : Int × Int // InG a b q }) : dnG f (pre ++ [x]) = updG (dnG f pre) x.1.2.toNat x.1.1.toNat (f x.1.2.toNat x.1.1.toNat) := by
  unfold dnG
  rw [List.foldl_append]
  rfl
theorem dn_bits (a b : Nat) (ha : 0 < a) (hb : 0 < b) (ha16 : a ≤ 16) (f : Nat → Nat → Bool) (y x : Nat) (hy : y < b) (hx : x < a) : ∀ t, t ≤ b * a → (dnG f ((gGrid a b ha hb).list t) y).testBit x = (decide (y * a + x < t) && f y x)
  | 0, _ => by simp [dnG, Grid.list]
  | t + 1, h => by
    have ih := dn_bits a b ha hb ha16 f y x hy hx t (by omega)
    have hm : t % a < a := Nat.mod_lt _ ha
    have hd : t / a < b := Nat.div_lt_of_lt_mul (by rw [Nat.mul_comm]; omega)
    have e1 : ((gGrid a b ha hb).at t).1.1.toNat = t % a := by
      show (((t % a : Nat) : Int) - ((0 : Nat) : Int)).toNat = t % a
      rw [Int.natCast_zero, Int.sub_zero, Int.toNat_natCast]
    have e2 : ((gGrid a b ha hb).at t).1.2.toNat = t / a := by
      show (((t / a % b : Nat) : Int) - ((0 : Nat) : Int)).toNat = t / a
      rw [Nat.mod_eq_of_lt hd, Int.natCast_zero, Int.sub_zero, Int.toNat_natCast]
    rw [Grid.list_snoc, dn_snoc, e1, e2]
    unfold updG
    have ht : t = t / a * a + t % a := by rw [Nat.mul_comm]; exact (Nat.div_add_mod t a).symm
    by_cases hyy : y = t / a
    · rw [if_pos hyy, upd_bit _ _ _ _ (by omega) (by omega), ← hyy]
      by_cases hxx : x = t % a
      · rw [if_pos hxx, ← hxx, decide_eq_true (by rw [hyy, hxx]; omega), Bool.true_and]
      · rw [if_neg hxx, ih]
        congr 1
        refine decide_eq_decide.2 ?_
        have : y * a + x ≠ t := by rw [hyy]; omega
        omega
    · rw [if_neg hyy, ih]
      congr 1
      refine decide_eq_decide.2 ?_
      have : y * a + x ≠ t := fun e => hyy (by rw [← e, Nat.mul_comm, Nat.mul_add_div ha, Nat.div_eq_of_lt hx, Nat.add_zero])
      omega
theorem dn_lt {a b : Nat} (f : Nat → Nat → Bool) (pre : List { q : Int × Int // InG a b q }) (ha : a ≤ 16) : ∀ j, dnG f pre j < 4294967296 := by
  have : ∀ (pre : List { q : Int × Int // InG a b q }) (g : Nat → Nat), (∀ j, g j < 4294967296) → ∀ j, pre.foldl (fun g x => updG g x.1.2.toNat x.1.1.toNat (f x.1.2.toNat x.1.1.toNat)) g j < 4294967296 := by
    intro pre
    induction pre with
    | nil => intro g hg; exact hg
    | cons x pre ih =>
      intro g hg
      refine ih _ (fun j => ?_)
      have hin := x.2
      unfold InG at hin
      exact upd_all hg _ _ _ (by omega) j
  exact this pre _ (fun _ => by omega)
end Go.Proofs.YtdeagfmldpociaaDoor

/- Contracts of single functions, and plain lemmas, on which the exact laws of this seat rest; each holds under the conditions that it states. -/
namespace Go.Proofs.YtdeagfmldpociaaDoor
set_option linter.unusedVariables false
set_option linter.unusedSimpArgs false
open Go.RowKit
attribute [local go_sem] Oper.semAt_some

/-- a pixel set: one block is another, all others stay -/
def SetX (w w' : World) (mb a b : Nat) (g : Nat → Nat) (q p : Nat) (bk : Bool) : Prop :=
  w'.heap[mb]? = some (.cells (mat a b (updG g q p bk)) 94 (0, 0)) ∧ Below mb w w' ∧ (∀ k, k ≠ mb → w'.heap[k]? = w.heap[k]?) ∧ w'.heap.size = w.heap.size

end Go.Proofs.YtdeagfmldpociaaDoor
