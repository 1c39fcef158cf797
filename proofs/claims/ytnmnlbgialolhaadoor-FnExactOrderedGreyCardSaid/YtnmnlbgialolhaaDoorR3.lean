/- Contracts of single functions, and plain lemmas, on which the exact laws of this seat rest; each holds under the conditions that it states. -/
import Derived.Test.YtnmnlbgialolhaaDoorWd
import Derived.Deep.QuietTactic
import Derived.BigQuiet
import Derived.Test.YtnmnlbgialolhaaDoorR1
import Derived.Test.YtnmnlbgialolhaaDoorRc
import Derived.Test.YtnmnlbgialolhaaDoorMo
import Derived.Deep.RegionHeld3
import Derived.Deep.RegionWith
import Derived.StillTailTactics
import Derived.Deep.DeepCutAuto
import Derived.Deep.MidRow
namespace Go.Proofs.YtnmnlbgialolhaaDoor
set_option linter.unusedVariables false
set_option linter.unusedSimpArgs false
open Go.RowKit

/-! ### borders, plainly -/
def wayI (c : Int) : Int := if c = 114 then 0 else if c = 100 then 1 else if c = 108 then 2 else if c = 117 then 3 else -1
def dX (w : Int) : Int := if w = 0 then 1 else if w = 2 then -1 else 0
def dY (w : Int) : Int := if w = 1 then 1 else if w = 3 then -1 else 0
theorem wayI_range (c : Int) : -1 ≤ wayI c ∧ wayI c ≤ 3 := by unfold wayI; (repeat' split) <;> omega
theorem dX_range (w : Int) : -1 ≤ dX w ∧ dX w ≤ 1 := by unfold dX; (repeat' split) <;> omega
theorem dY_range (w : Int) : -1 ≤ dY w ∧ dY w ≤ 1 := by unfold dY; (repeat' split) <;> omega
/-- the byte k of a text -/
def byI (s : ByteArray) (k : Nat) : Int := ((s.data.toList.getD k 0).toNat : Int)
theorem byI_eq (s : ByteArray) (k : Nat) (h : k < s.size) : ((s[k]'h).toNat : Int) = byI s k := by
  unfold byI
  have h2 : k < s.data.toList.length := by rw [Array.length_toList]; exact h
  rw [List.getD_eq_getElem?_getD, List.getElem?_eq_getElem h2]
  rfl
theorem byI_range (s : ByteArray) (k : Nat) : 0 ≤ byI s k ∧ byI s k < 256 := by
  unfold byI
  have := UInt8.toNat_lt (s.data.toList.getD k 0)
  omega
/-- the direction of the step k -/
def wy (s : ByteArray) (k : Nat) : Int := wayI (byI s k)
theorem wy_range (s : ByteArray) (k : Nat) : -1 ≤ wy s k ∧ wy s k ≤ 3 := wayI_range _
/-- where the border is before the step k -/
def px (X : Int) (s : ByteArray) : Nat → Int
  | 0 => X
  | k + 1 => px X s k + dX (wy s k)
def py (Y : Int) (s : ByteArray) : Nat → Int
  | 0 => Y
  | k + 1 => py Y s k + dY (wy s k)
/-- the step before the step k, around -/
def prv (s : ByteArray) (k : Nat) : Nat := (k + s.size - 1) % s.size
theorem prv_lt (s : ByteArray) (k : Nat) (h : 0 < s.size) : prv s k < s.size := Nat.mod_lt _ h
def corn (x y : Int) : Prop := 0 ≤ x ∧ x ≤ 16 ∧ 0 ≤ y ∧ y ≤ 16
instance (x y : Int) : Decidable (corn x y) := by unfold corn; exact inferInstance
def cornB (x y : Int) : Bool := decide (corn x y)
/-- the turn with which the step k comes -/
def trn (s : ByteArray) (k : Nat) : Int := (wy s k - wy s (prv s k) + 4) % 4
theorem trn_range (s : ByteArray) (k : Nat) : 0 ≤ trn s k ∧ trn s k < 4 := by unfold trn; omega

/-- the first k steps are steps, from corners, and none comes twice -/
def Good (X Y : Int) (s : ByteArray) (k : Nat) : Prop :=
  ∀ j : Nat, j < k → 0 ≤ wy s j ∧ corn (px X s j) (py Y s j) ∧ ∀ i : Nat, i < j → ¬ (px X s i = px X s j ∧ py Y s i = py Y s j ∧ wy s i = wy s j)
theorem Good.zero (X Y : Int) (s : ByteArray) : Good X Y s 0 := fun j h => absurd h (Nat.not_lt_zero j)
theorem Good.mono {X Y : Int} {s : ByteArray} {k m : Nat} (h : Good X Y s m) (hk : k ≤ m) : Good X Y s k := fun j hj => h j (Nat.lt_of_lt_of_le hj hk)
theorem Good.snoc {X Y : Int} {s : ByteArray} {k : Nat} (h : Good X Y s k) (h1 : 0 ≤ wy s k) (h2 : corn (px X s k) (py Y s k)) (h3 : ∀ i : Nat, i < k → ¬ (px X s i = px X s k ∧ py Y s i = py Y s k ∧ wy s i = wy s k)) : Good X Y s (k + 1) := fun j hj => by
  by_cases e : j = k
  · subst e; exact ⟨h1, h2, h3⟩
  · exact h j (by omega)

/-- a border -/
def OKb (X Y : Int) (s : ByteArray) : Prop :=
  4 ≤ s.size ∧ s.size ≤ 600 ∧ Good X Y s s.size ∧ px X s s.size = X ∧ py Y s s.size = Y ∧ ∀ k : Nat, k < s.size → trn s k ≠ 2
noncomputable def okb (X Y : Int) (s : ByteArray) : Bool := @decide (OKb X Y s) (Classical.propDecidable _)
theorem okb_yes {X Y : Int} {s : ByteArray} (h : OKb X Y s) : okb X Y s = true := @decide_eq_true _ (Classical.propDecidable _) h
theorem okb_no {X Y : Int} {s : ByteArray} (h : ¬ OKb X Y s) : okb X Y s = false := @decide_eq_false _ (Classical.propDecidable _) h
theorem okb_of {X Y : Int} {s : ByteArray} (h : okb X Y s = true) : OKb X Y s := @of_decide_eq_true _ (Classical.propDecidable _) h

theorem prv_cast (s : ByteArray) (k : Nat) (h : 0 < s.size) : (((k : Int) + (s.size : Int) - 1) % (s.size : Int)) = (prv s k : Int) := by
  unfold prv
  have : (k : Int) + (s.size : Int) - 1 = ((k + s.size - 1 : Nat) : Int) := by omega
  rw [this]
  rfl
end Go.Proofs.YtnmnlbgialolhaaDoor

/- Contracts of single functions, and plain lemmas, on which the exact laws of this seat rest; each holds under the conditions that it states. -/
namespace Go.Proofs.YtnmnlbgialolhaaDoor
set_option linter.unusedVariables false
set_option linter.unusedSimpArgs false
open Go.RowKit

theorem eqI_yes {a b : Int} (h : a = b) : (a == b) = true := beq_iff_eq.2 h
theorem eqI_no {a b : Int} (h : a ≠ b) : (a == b) = false := by simpa using h

end Go.Proofs.YtnmnlbgialolhaaDoor

/- Contracts of single functions, and plain lemmas, on which the exact laws of this seat rest; each holds under the conditions that it states. -/
namespace Go.Proofs.YtnmnlbgialolhaaDoor
set_option linter.unusedVariables false
set_option linter.unusedSimpArgs false
open Go.RowKit

set_option maxHeartbeats 2000000 in
set_option maxRecDepth 100000 in
theorem reqMat_yes (v : Value) (ss : List ByteArray) (w : World) (hN : ss.length ≤ maxLen) (hz : ∀ s ∈ ss, s.size ≤ maxLen) (hv : Sl w v ss) (he : ErrLen w) (hok : validB ss = true) :
    Calls Tryd.prog 42 #[.agg #[v]] w (fun e w' => e = .returned (.agg (matC ss)) ∧ Below w.heap.size w w') := by
  have hb0 := Joins.below_alloc2 w (.cells #[v] 26) (.cells zeros 63)
  have hR0 := heap_alloc2_new w (.cells #[v] 26) (.cells zeros 63)
  have hc0 : ((w.alloc (.cells #[v] 26)).alloc (.cells zeros 63)).cell? ⟨w.heap.size, 0, none⟩ = some v := cell_of_one (t := 26) (by rw [Below.heap_alloc _ _ _ (by simp)]; exact heap_alloc_last w _)
  have C := Lib.hid (matrixOf_any v ss ((w.alloc (.cells #[v] 26)).alloc (.cells zeros 63)) hN hz (hv.below hb0) (he.below hb0))
  have hsz := matC_size ss
  have hone := matC_one ss
  unfold MatOf at C
  rw [hok] at C
  obtain ⟨M, hM⟩ : ∃ M, matC ss = M := ⟨_, rfl⟩
  rw [hM] at C hsz hone ⊢
  have HI : Hid ((Tryd.prog.info? 63).map (·.size) = some M.size) := by show _ = _; rw [hsz]; exact infoM
  have HZ := Lib.hid (zeros_size.trans hsz.symm)
  have HO := Lib.hid hone
  have HR0 := Lib.hid hR0
  have HB0 := Lib.hid hb0
  clear hM hsz hone hb0 hv he hR0 hok
  go_enter Tryd.func42, Tryd.ntmps42
  go_wp2_with fail
  refine C.out.mono ?_
  rintro e w1 ⟨rfl, hb⟩
  have hB1 := HB0.out.trans (hb.mono (by simp; omega))
  have hs1 := hB1.size
  have HR1 := Lib.hid ((hb.block (w.heap.size + 1) (by simp)).trans HR0.out)
  have hl1 : w.heap.size + 1 < w1.heap.size := by have := hb.size; simp at this; omega
  have HB1 := Lib.hid hB1
  have HM1 : Hid ((w1.alloc (.cells M 63)).heap[w1.heap.size]? = some (.cells M 63 (0, 0))) := heap_alloc_last w1 _
  have HR2 : Hid ((w1.alloc (.cells M 63)).heap[w.heap.size + 1]? = some (.cells zeros 63 (0, 0))) := (Below.heap_alloc _ _ _ hl1).trans HR1.out
  clear hb hB1 hc0
  go_wp2_with (refine wpList_store_new w1 rfl 63 _ _ rfl M rfl rfl 63 zeros HI.out HZ.out HO.out ?_; refine Hid.out ?_)
  refine Lib.hid ?_
  go_wp2_with fail
  refine (require_yes _).mono ?_
  rintro e w2 ⟨rfl, rfl⟩
  go_wp2_with (first | (refine wpList_load_row rfl 63 _ rfl w1.heap.size rfl 63 M (0, 0) _ HM1.out Tryd.underlying63 rfl HI.out ?_) | (refine wpList_store_row rfl 63 _ _ rfl (w.heap.size + 1) M rfl rfl 63 zeros HR2.out HI.out HZ.out HO.out ?_))
  exact bodyPost_ret (results_cell1 (p := 2) (ty := 63) Tryd.results42 _ _ (w.heap.size + 1) 63 M (0, 0) _ rfl (setRow_heap _ _ _ _ _ _ HR2.out) Tryd.underlying63 rfl HI.out) rfl ⟨rfl, setRow_below (HB1.out.alloc hs1 _) (by omega) _⟩

set_option maxHeartbeats 2000000 in
set_option maxRecDepth 100000 in
theorem reqMat_no (v : Value) (ss : List ByteArray) (w : World) (hN : ss.length ≤ maxLen) (hz : ∀ s ∈ ss, s.size ≤ maxLen) (hv : Sl w v ss) (he : ErrLen w) (hn : NoRes w) (hok : validB ss = false) :
    Calls Tryd.prog 42 #[.agg #[v]] w (fun e w' => (∃ T x, e = .panicked [{ v := .iface T x, recovered := false }]) ∧ Below w.heap.size w w') := by
  have hb0 := Joins.below_alloc2 w (.cells #[v] 26) (.cells zeros 63)
  have hc0 : ((w.alloc (.cells #[v] 26)).alloc (.cells zeros 63)).cell? ⟨w.heap.size, 0, none⟩ = some v := cell_of_one (t := 26) (by rw [Below.heap_alloc _ _ _ (by simp)]; exact heap_alloc_last w _)
  have C := Lib.hid (matrixOf_any v ss ((w.alloc (.cells #[v] 26)).alloc (.cells zeros 63)) hN hz (hv.below hb0) (he.below hb0))
  have hsz := matC_size ss
  have hone := matC_one ss
  unfold MatOf at C
  rw [hok] at C
  obtain ⟨M, hM⟩ : ∃ M, matC ss = M := ⟨_, rfl⟩
  rw [hM] at C hsz hone
  have HI : Hid ((Tryd.prog.info? 63).map (·.size) = some M.size) := by show _ = _; rw [hsz]; exact infoM
  have HZ := Lib.hid (zeros_size.trans hsz.symm)
  have HO := Lib.hid hone
  have HB0 := Lib.hid hb0
  have HN : Hid (∀ W, Below w.heap.size w W → NoRes W) := fun W hb => hn.below hb
  clear hM hsz hone hb0 hv he hok hn
  go_enter Tryd.func42, Tryd.ntmps42
  go_wp2_with fail
  refine C.out.mono ?_
  rintro e w1 ⟨rfl, hb⟩
  have hB1 := HB0.out.trans (hb.mono (by simp; omega))
  have hs1 := hB1.size
  have HB2 := Lib.hid (hB1.alloc hs1 (.cells M 63))
  clear hb hB1 hc0
  go_wp2_with (refine wpList_store_new w1 rfl 63 _ _ rfl M rfl rfl 63 zeros HI.out HZ.out HO.out ?_; refine Hid.out ?_)
  refine Lib.hid ?_
  go_wp2_with fail
  refine (require_no _ (HN.out _ HB2.out)).mono ?_
  rintro e w2 ⟨T, x, rfl, rfl⟩
  go_wp2_with fail
  exact ⟨rfl, ⟨T, x, rfl⟩, HB2.out⟩
end Go.Proofs.YtnmnlbgialolhaaDoor

/- Contracts of single functions, and plain lemmas, on which the exact laws of this seat rest; each holds under the conditions that it states. -/
namespace Go.Proofs.YtnmnlbgialolhaaDoor
set_option linter.unusedVariables false
set_option linter.unusedSimpArgs false
open Go.RowKit

theorem plus_any (x y a b : Int) (w : World) (h1 : -100 ≤ x ∧ x ≤ 100) (h2 : -100 ≤ y ∧ y ≤ 100) (h3 : -100 ≤ a ∧ a ≤ 100) (h4 : -100 ≤ b ∧ b ≤ 100) :
    Calls Tryd.prog 123 #[.agg #[.int .i64 x, .int .i64 y], .agg #[.int .i64 a, .int .i64 b]] w fun e w' => e = .returned (.agg #[.int .i64 (x + a), .int .i64 (y + b)]) ∧ Below w.heap.size w w' := by
  go_enter Tryd.func123, Tryd.ntmps123
  go_wp2
  exact bodyPost_ret (v := .agg #[.int .i64 (x + a), .int .i64 (y + b)]) (by simp [results, Tryd.results123, go_sem]) rfl ⟨rfl, Joins.below_alloc3 w _ _ _⟩

end Go.Proofs.YtnmnlbgialolhaaDoor

/- Contracts of single functions, and plain lemmas, on which the exact laws of this seat rest; each holds under the conditions that it states. -/
namespace Go.Proofs.YtnmnlbgialolhaaDoor
set_option linter.unusedVariables false
set_option linter.unusedSimpArgs false
open Go.RowKit

/-- the table of pixels on the right of steps -/
def rpL : List Value := [.int .i64 0, .int .i64 0, .int .i64 (-1), .int .i64 0, .int .i64 (-1), .int .i64 (-1), .int .i64 0, .int .i64 (-1)]
def crV (p : Int → Int → Bool) (x y : Int) : Nat → Bool
  | 0 => p x y
  | 1 => p (x + -1) y
  | 2 => p (x + -1) (y + -1)
  | _ => p x (y + -1)
def crS (p : Int → Int → Bool) (x y : Int) (k : Nat) : Array Value := #[.bool (decide (0 < k) && crV p x y 0), .bool (decide (1 < k) && crV p x y 1), .bool (decide (2 < k) && crV p x y 2), .bool (decide (3 < k) && crV p x y 3)]

theorem crS_at (p : Int → Int → Bool) (x y : Int) {i : Nat} (h : i < 4) : (crS p x y i)[i]? = some (.bool false) := by
  rcases (by omega : i = 0 ∨ i = 1 ∨ i = 2 ∨ i = 3) with rfl | rfl | rfl | rfl <;> rfl
theorem crS_set (p : Int → Int → Bool) (x y : Int) {i : Nat} (h : i < 4) : (crS p x y i).setIfInBounds i (.bool (crV p x y i)) = crS p x y (i + 1) := by
  rcases (by omega : i = 0 ∨ i = 1 ∨ i = 2 ∨ i = 3) with rfl | rfl | rfl | rfl <;> rfl

theorem crS_one (p : Int → Int → Bool) (x y : Int) (k : Nat) : (crS p x y k).all (·.oneCell') = true := by
  unfold crS
  first | rfl | simp [Value.oneCell'] | (generalize (decide (0 < k) && crV p x y 0) = b0; generalize (decide (1 < k) && crV p x y 1) = b1; generalize (decide (2 < k) && crV p x y 2) = b2; generalize (decide (3 < k) && crV p x y 3) = b3; cases b0 <;> cases b1 <;> cases b2 <;> cases b3 <;> rfl)
end Go.Proofs.YtnmnlbgialolhaaDoor
