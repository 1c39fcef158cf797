/- Contracts of single functions, and plain lemmas, on which the exact laws of this seat rest; each holds under the conditions that it states. -/
import Derived.Test.YthblhibkbcmbaaaDoorCVC
import Derived.Test.YthblhibkbcmbaaaDoorDF
import Derived.Test.YthblhibkbcmbaaaDoorD1
import Derived.Test.YthblhibkbcmbaaaDoorCV5
namespace Go.Proofs.YthblhibkbcmbaaaDoor
set_option linter.unusedVariables false
set_option linter.unusedSimpArgs false
open Go.RowKit
attribute [local go_sem] Oper.semAt_some

def saOk (c n i : Int) : Bool := (inB c 0 3 && inB n 0 4) && inB i 0 (sd n * sd n - 1)
def saV (c n i : Int) : Int × Int := if saOk c n i = true then (cvF c.toNat n.toNat).getD i.toNat (0, 0) else (0, 0)
/-- what is known of a curve and an order -/
theorem tour_nat {c n : Int} (h : (inB c 0 3 && inB n 0 4) = true) : ∃ c' n' : Nat, c = c' ∧ n = n' ∧ c' < 4 ∧ n' ≤ 4 := by
  simp only [Bool.and_eq_true] at h
  have h1 := inB_le h.1
  have h2 := inB_le h.2
  exact ⟨c.toNat, n.toNat, by omega, by omega, by omega, by omega⟩
theorem sd_mul {n : Int} (h0 : 0 ≤ n) (h4 : n ≤ 4) : IntKind.i64.wrap (sd n * sd n) = sd n * sd n ∧ 1 ≤ sd n * sd n ∧ sd n * sd n ≤ 256 := by
  have : n = 0 ∨ n = 1 ∨ n = 2 ∨ n = 3 ∨ n = 4 := by omega
  rcases this with rfl | rfl | rfl | rfl | rfl <;> decide +kernel
theorem sd_sq (n : Nat) : sd (n : Int) * sd (n : Int) = ((2 ^ n * 2 ^ n : Nat) : Int) := by
  rw [sd_nat]; push_cast; rfl

end Go.Proofs.YthblhibkbcmbaaaDoor

/- Contracts of single functions, and plain lemmas, on which the exact laws of this seat rest; each holds under the conditions that it states. -/
namespace Go.Proofs.YthblhibkbcmbaaaDoor
set_option linter.unusedVariables false
set_option linter.unusedSimpArgs false
open Go.RowKit
attribute [local go_sem] Oper.semAt_some

theorem cvL_small (c n : Nat) (hn : n ≤ 4) : ∀ k, k ≤ 2 ^ n * 2 ^ n → ∀ p ∈ cvL c n k, Small p.1 ∧ Small p.2
  | 0, _, p, hp => by
    have := (List.mem_replicate.1 hp).2
    subst this
    unfold Small
    decide
  | k + 1, hk, p, hp => by
    have h16 := pow_le16 hn
    have h1 : 1 ≤ 2 ^ n := Nat.one_le_two_pow
    rcases List.mem_or_eq_of_mem_set hp with h | h
    · exact cvL_small c n hn k (by omega) p h
    · subst h
      have d1 : k % 2 ^ n < 2 ^ n := Nat.mod_lt _ h1
      have d2 : k / 2 ^ n < 2 ^ n := Nat.div_lt_of_lt_mul (by omega)
      revert d1 d2
      generalize k % 2 ^ n = u
      generalize k / 2 ^ n = v
      intro d1 d2
      exact ⟨⟨by show (-40 : Int) ≤ (u : Int); omega, by show (u : Int) ≤ 40; omega⟩, by show (-40 : Int) ≤ (v : Int); omega, by show (v : Int) ≤ 40; omega⟩
theorem cvF_small (c n : Nat) (hn : n ≤ 4) (i : Nat) : Small ((cvF c n).getD i (0, 0)).1 ∧ Small ((cvF c n).getD i (0, 0)).2 := by
  rw [List.getD_eq_getElem?_getD]
  cases h : (cvF c n)[i]? with
  | none => exact ⟨⟨by decide, by decide⟩, by decide, by decide⟩
  | some p => exact cvL_small c n hn _ (Nat.le_refl _) p (List.mem_of_getElem? h)
/-- how far it is from a spot to the next one -/
def jmp (L : List (Int × Int)) (k : Nat) : Int := farI 0 (L.getD k (0, 0)).1 (L.getD k (0, 0)).2 (L.getD (k + 1) (0, 0)).1 (L.getD (k + 1) (0, 0)).2
def mxJ (L : List (Int × Int)) : Nat → Int
  | 0 => 0
  | k + 1 => max (mxJ L k) (jmp L k)
def ljV (c n : Int) : Int := if (inB c 0 3 && inB n 0 4) = true then mxJ (cvF c.toNat n.toNat) ((cvF c.toNat n.toNat).length - 1) else 0

end Go.Proofs.YthblhibkbcmbaaaDoor

/- Contracts of single functions, and plain lemmas, on which the exact laws of this seat rest; each holds under the conditions that it states. -/
namespace Go.Proofs.YthblhibkbcmbaaaDoor
set_option linter.unusedVariables false
set_option linter.unusedSimpArgs false
open Go.RowKit

/-! ### curves, all of them (kernel) -/
def cvChk (c n : Nat) : Nat → List (Int × Int) → Bool
  | _, [] => true
  | i, p :: t => (decide (0 ≤ p.1) && decide (p.1 < 2 ^ n) && decide (0 ≤ p.2) && decide (p.2 < 2 ^ n) && decide (ixS c n p.1.toNat p.2.toNat = (i : Int))) && cvChk c n (i + 1) t
theorem cvChk_at (c n : Nat) : ∀ (L : List (Int × Int)) (i j : Nat), cvChk c n i L = true → j < L.length → (0 ≤ (L.getD j (0, 0)).1 ∧ (L.getD j (0, 0)).1 < 2 ^ n ∧ 0 ≤ (L.getD j (0, 0)).2 ∧ (L.getD j (0, 0)).2 < 2 ^ n ∧ ixS c n (L.getD j (0, 0)).1.toNat (L.getD j (0, 0)).2.toNat = ((i + j : Nat) : Int))
  | [], _, _, _, hj => by cases hj
  | p :: t, i, 0, h, _ => by
    simp only [cvChk, Bool.and_eq_true, decide_eq_true_eq] at h
    exact ⟨h.1.1.1.1.1, h.1.1.1.1.2, h.1.1.1.2, h.1.1.2, h.1.2⟩
  | p :: t, i, j + 1, h, hj => by
    simp only [cvChk, Bool.and_eq_true] at h
    have := cvChk_at c n t (i + 1) j h.2 (by simpa using hj)
    rw [show i + 1 + j = i + (j + 1) from by omega] at this
    exact this
set_option maxRecDepth 100000 in
theorem cv_all : ∀ c < 4, ∀ n < 5, cvChk c n 0 (cvF c n) = true := by decide +kernel
set_option maxRecDepth 100000 in
theorem cv_first : ∀ c < 4, ∀ n < 5, (cvF c n).getD 0 (0, 0) = (0, 0) := by decide +kernel
/-- whether each spot is at most one away from the one before -/
def jmChk : Int × Int → List (Int × Int) → Bool
  | _, [] => true
  | q, p :: t => decide (farI 0 q.1 q.2 p.1 p.2 = 1) && jmChk p t
set_option maxRecDepth 100000 in
theorem cv_near : ∀ c < 4, ∀ n < 5, c = 1 ∨ c = 3 → n ≠ 0 → jmChk ((cvF c n).getD 0 (0, 0)) ((cvF c n).drop 1) = true := by decide +kernel
theorem jmChk_at : ∀ (L : List (Int × Int)) (q : Int × Int) (j : Nat), jmChk q L = true → j < L.length → jmp (q :: L) j = 1
  | [], _, _, _, hj => by cases hj
  | p :: t, q, 0, h, _ => by
    simp only [jmChk, Bool.and_eq_true, decide_eq_true_eq] at h
    exact h.1
  | p :: t, q, j + 1, h, hj => by
    simp only [jmChk, Bool.and_eq_true] at h
    exact jmChk_at t p j h.2 (by simpa using hj)
theorem mxJ_one {L : List (Int × Int)} : ∀ k, 0 < k → (∀ j, j < k → jmp L j = 1) → mxJ L k = 1
  | 0, h, _ => by omega
  | k + 1, _, h => by
    show max (mxJ L k) (jmp L k) = 1
    rw [h k (by omega)]
    cases k with
    | zero => rfl
    | succ k => rw [mxJ_one (k + 1) (by omega) (fun j hj => h j (by omega))]; rfl
theorem cv_jump (c n : Nat) (hc : c < 4) (hn : n < 5) (h1 : c = 1 ∨ c = 3) (h0 : n ≠ 0) : mxJ (cvF c n) ((cvF c n).length - 1) = 1 := by
  have hl := cvF_len c n
  have h2 : 2 ≤ 2 ^ n := by
    have : 2 ^ 1 ≤ 2 ^ n := Nat.pow_le_pow_right (by decide) (by omega)
    simpa using this
  have h4 : 4 ≤ 2 ^ n * 2 ^ n := Nat.mul_le_mul h2 h2
  have hk := cv_near c hc n hn h1 h0
  cases hL : cvF c n with
  | nil => rw [hL] at hl; simp at hl; omega
  | cons q t =>
    rw [hL] at hk hl
    refine mxJ_one _ (by rw [hl]; omega) fun j hj => jmChk_at t q j (by simpa using hk) (by simpa using hj)
theorem cv_spot (c n : Nat) (hc : c < 4) (hn : n < 5) (i : Nat) (hi : i < 2 ^ n * 2 ^ n) : 0 ≤ ((cvF c n).getD i (0, 0)).1 ∧ ((cvF c n).getD i (0, 0)).1 < 2 ^ n ∧ 0 ≤ ((cvF c n).getD i (0, 0)).2 ∧ ((cvF c n).getD i (0, 0)).2 < 2 ^ n ∧ ixS c n ((cvF c n).getD i (0, 0)).1.toNat ((cvF c n).getD i (0, 0)).2.toNat = (i : Int) := by
  have := cvChk_at c n (cvF c n) 0 i (cv_all c hc n hn) (by rw [cvF_len]; exact hi)
  rwa [Nat.zero_add] at this
end Go.Proofs.YthblhibkbcmbaaaDoor
