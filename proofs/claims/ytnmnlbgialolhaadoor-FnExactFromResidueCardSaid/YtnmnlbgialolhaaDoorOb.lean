/- Contracts of single functions, and plain lemmas, on which the exact laws of this seat rest; each holds under the conditions that it states. -/
import Derived.Test.YtnmnlbgialolhaaDoorIs
import Derived.Deep.QuietTactic
import Derived.BigQuiet
namespace Go.Proofs.YtnmnlbgialolhaaDoor
set_option linter.unusedVariables false
set_option linter.unusedSimpArgs false
open Go.RowKit

/-! ### borders, plainly -/
def wayI (c : Int) : Int := if c = 114 then 0 else if c = 100 then 1 else if c = 108 then 2 else if c = 117 then 3 else -1
def dX (w : Int) : Int := if w = 0 then 1 else if w = 2 then -1 else 0
def dY (w : Int) : Int := if w = 1 then 1 else if w = 3 then -1 else 0
theorem wayI_range (c : Int) : -1 ≤ wayI c ∧ wayI c ≤ 3 := by unfold wayI; (repeat' split) <;> omega
theorem dX_range (w : Int) : -1 ≤ dX w ∧ dX w ≤ 1 := by unfold dX; (repeat' split) <;> omega
theorem dY_range (w : Int) : -1 ≤ dY w ∧ dY w ≤ 1 := by unfold dY; (repeat' split) <;> omega
/-- the byte k of a text -/
def byI (s : ByteArray) (k : Nat) : Int := ((s.data.toList.getD k 0).toNat : Int)
theorem byI_eq (s : ByteArray) (k : Nat) (h : k < s.size) : ((s[k]'h).toNat : Int) = byI s k := by
  unfold byI
  have h2 : k < s.data.toList.length := by rw [Array.length_toList]; exact h
  rw [List.getD_eq_getElem?_getD, List.getElem?_eq_getElem h2]
  rfl
theorem byI_range (s : ByteArray) (k : Nat) : 0 ≤ byI s k ∧ byI s k < 256 := by
  unfold byI
  have := UInt8.toNat_lt (s.data.toList.getD k 0)
  omega
/-- the direction of the step k -/
def wy (s : ByteArray) (k : Nat) : Int := wayI (byI s k)
theorem wy_range (s : ByteArray) (k : Nat) : -1 ≤ wy s k ∧ wy s k ≤ 3 := wayI_range _
/-- where the border is before the step k -/
def px (X : Int) (s : ByteArray) : Nat → Int
  | 0 => X
  | k + 1 => px X s k + dX (wy s k)
def py (Y : Int) (s : ByteArray) : Nat → Int
  | 0 => Y
  | k + 1 => py Y s k + dY (wy s k)
/-- the step before the step k, around -/
def prv (s : ByteArray) (k : Nat) : Nat := (k + s.size - 1) % s.size
theorem prv_lt (s : ByteArray) (k : Nat) (h : 0 < s.size) : prv s k < s.size := Nat.mod_lt _ h
def corn (x y : Int) : Prop := 0 ≤ x ∧ x ≤ 16 ∧ 0 ≤ y ∧ y ≤ 16
instance (x y : Int) : Decidable (corn x y) := by unfold corn; exact inferInstance
def cornB (x y : Int) : Bool := decide (corn x y)
/-- the turn with which the step k comes -/
def trn (s : ByteArray) (k : Nat) : Int := (wy s k - wy s (prv s k) + 4) % 4
theorem trn_range (s : ByteArray) (k : Nat) : 0 ≤ trn s k ∧ trn s k < 4 := by unfold trn; omega

/-- the first k steps are steps, from corners, and none comes twice -/
def Good (X Y : Int) (s : ByteArray) (k : Nat) : Prop :=
  ∀ j : Nat, j < k → 0 ≤ wy s j ∧ corn (px X s j) (py Y s j) ∧ ∀ i : Nat, i < j → ¬ (px X s i = px X s j ∧ py Y s i = py Y s j ∧ wy s i = wy s j)
theorem Good.zero (X Y : Int) (s : ByteArray) : Good X Y s 0 := fun j h => absurd h (Nat.not_lt_zero j)
theorem Good.mono {X Y : Int} {s : ByteArray} {k m : Nat} (h : Good X Y s m) (hk : k ≤ m) : Good X Y s k := fun j hj => h j (Nat.lt_of_lt_of_le hj hk)
theorem Good.snoc {X Y : Int} {s : ByteArray} {k : Nat} (h : Good X Y s k) (h1 : 0 ≤ wy s k) (h2 : corn (px X s k) (py Y s k)) (h3 : ∀ i : Nat, i < k → ¬ (px X s i = px X s k ∧ py Y s i = py Y s k ∧ wy s i = wy s k)) : Good X Y s (k + 1) := fun j hj => by
  by_cases e : j = k
  · subst e; exact ⟨h1, h2, h3⟩
  · exact h j (by omega)

/-- a border -/
def OKb (X Y : Int) (s : ByteArray) : Prop :=
  4 ≤ s.size ∧ s.size ≤ 600 ∧ Good X Y s s.size ∧ px X s s.size = X ∧ py Y s s.size = Y ∧ ∀ k : Nat, k < s.size → trn s k ≠ 2
noncomputable def okb (X Y : Int) (s : ByteArray) : Bool := @decide (OKb X Y s) (Classical.propDecidable _)
theorem okb_yes {X Y : Int} {s : ByteArray} (h : OKb X Y s) : okb X Y s = true := @decide_eq_true _ (Classical.propDecidable _) h
theorem okb_no {X Y : Int} {s : ByteArray} (h : ¬ OKb X Y s) : okb X Y s = false := @decide_eq_false _ (Classical.propDecidable _) h
theorem okb_of {X Y : Int} {s : ByteArray} (h : okb X Y s = true) : OKb X Y s := @of_decide_eq_true _ (Classical.propDecidable _) h

theorem prv_cast (s : ByteArray) (k : Nat) (h : 0 < s.size) : (((k : Int) + (s.size : Int) - 1) % (s.size : Int)) = (prv s k : Int) := by
  unfold prv
  have : (k : Int) + (s.size : Int) - 1 = ((k + s.size - 1 : Nat) : Int) := by omega
  rw [this]
  rfl
end Go.Proofs.YtnmnlbgialolhaaDoor

/- Contracts of single functions, and plain lemmas, on which the exact laws of this seat rest; each holds under the conditions that it states. -/
namespace Go.Proofs.YtnmnlbgialolhaaDoor
set_option linter.unusedVariables false
set_option linter.unusedSimpArgs false
open Go.RowKit

theorem eqI_yes {a b : Int} (h : a = b) : (a == b) = true := beq_iff_eq.2 h
theorem eqI_no {a b : Int} (h : a ≠ b) : (a == b) = false := by simpa using h

end Go.Proofs.YtnmnlbgialolhaaDoor
