/- Contracts of single functions, and plain lemmas, on which the exact laws of this seat rest; each holds under the conditions that it states. -/
import Derived.Test.YtnmnlbgialolhaaDoorCVG
import Derived.Test.YtnmnlbgialolhaaDoorBY
import Derived.Test.YtnmnlbgialolhaaDoorCVE
import Derived.Test.YtnmnlbgialolhaaDoorCVB
import Derived.Test.YtnmnlbgialolhaaDoorCVH
import Derived.Test.YtnmnlbgialolhaaDoorD4
import Derived.Test.YtnmnlbgialolhaaDoorDB
namespace Go.Proofs.YtnmnlbgialolhaaDoor
set_option linter.unusedVariables false
set_option linter.unusedSimpArgs false
open Go.RowKit

/-! ### curves, all of them (kernel) -/
def cvChk (c n : Nat) : Nat → List (Int × Int) → Bool
  | _, [] => true
  | i, p :: t => (decide (0 ≤ p.1) && decide (p.1 < 2 ^ n) && decide (0 ≤ p.2) && decide (p.2 < 2 ^ n) && decide (ixS c n p.1.toNat p.2.toNat = (i : Int))) && cvChk c n (i + 1) t
theorem cvChk_at (c n : Nat) : ∀ (L : List (Int × Int)) (i j : Nat), cvChk c n i L = true → j < L.length → (0 ≤ (L.getD j (0, 0)).1 ∧ (L.getD j (0, 0)).1 < 2 ^ n ∧ 0 ≤ (L.getD j (0, 0)).2 ∧ (L.getD j (0, 0)).2 < 2 ^ n ∧ ixS c n (L.getD j (0, 0)).1.toNat (L.getD j (0, 0)).2.toNat = ((i + j : Nat) : Int))
  | [], _, _, _, hj => by cases hj
  | p :: t, i, 0, h, _ => by
    simp only [cvChk, Bool.and_eq_true, decide_eq_true_eq] at h
    exact ⟨h.1.1.1.1.1, h.1.1.1.1.2, h.1.1.1.2, h.1.1.2, h.1.2⟩
  | p :: t, i, j + 1, h, hj => by
    simp only [cvChk, Bool.and_eq_true] at h
    have := cvChk_at c n t (i + 1) j h.2 (by simpa using hj)
    rw [show i + 1 + j = i + (j + 1) from by omega] at this
    exact this
set_option maxRecDepth 100000 in
theorem cv_all : ∀ c < 4, ∀ n < 5, cvChk c n 0 (cvF c n) = true := by decide +kernel
set_option maxRecDepth 100000 in
theorem cv_first : ∀ c < 4, ∀ n < 5, (cvF c n).getD 0 (0, 0) = (0, 0) := by decide +kernel
/-- whether each spot is at most one away from the one before -/
def jmChk : Int × Int → List (Int × Int) → Bool
  | _, [] => true
  | q, p :: t => decide (farI 0 q.1 q.2 p.1 p.2 = 1) && jmChk p t
set_option maxRecDepth 100000 in
theorem cv_near : ∀ c < 4, ∀ n < 5, c = 1 ∨ c = 3 → n ≠ 0 → jmChk ((cvF c n).getD 0 (0, 0)) ((cvF c n).drop 1) = true := by decide +kernel
theorem jmChk_at : ∀ (L : List (Int × Int)) (q : Int × Int) (j : Nat), jmChk q L = true → j < L.length → jmp (q :: L) j = 1
  | [], _, _, _, hj => by cases hj
  | p :: t, q, 0, h, _ => by
    simp only [jmChk, Bool.and_eq_true, decide_eq_true_eq] at h
    exact h.1
  | p :: t, q, j + 1, h, hj => by
    simp only [jmChk, Bool.and_eq_true] at h
    exact jmChk_at t p j h.2 (by simpa using hj)
theorem mxJ_one {L : List (Int × Int)} : ∀ k, 0 < k → (∀ j, j < k → jmp L j = 1) → mxJ L k = 1
  | 0, h, _ => by omega
  | k + 1, _, h => by
    show max (mxJ L k) (jmp L k) = 1
    rw [h k (by omega)]
    cases k with
    | zero => rfl
    | succ k => rw [mxJ_one (k + 1) (by omega) (fun j hj => h j (by omega))]; rfl
theorem cv_jump (c n : Nat) (hc : c < 4) (hn : n < 5) (h1 : c = 1 ∨ c = 3) (h0 : n ≠ 0) : mxJ (cvF c n) ((cvF c n).length - 1) = 1 := by
  have hl := cvF_len c n
  have h2 : 2 ≤ 2 ^ n := by
    have : 2 ^ 1 ≤ 2 ^ n := Nat.pow_le_pow_right (by decide) (by omega)
    simpa using this
  have h4 : 4 ≤ 2 ^ n * 2 ^ n := Nat.mul_le_mul h2 h2
  have hk := cv_near c hc n hn h1 h0
  cases hL : cvF c n with
  | nil => rw [hL] at hl; simp at hl; omega
  | cons q t =>
    rw [hL] at hk hl
    refine mxJ_one _ (by rw [hl]; omega) fun j hj => jmChk_at t q j (by simpa using hk) (by simpa using hj)
theorem cv_spot (c n : Nat) (hc : c < 4) (hn : n < 5) (i : Nat) (hi : i < 2 ^ n * 2 ^ n) : 0 ≤ ((cvF c n).getD i (0, 0)).1 ∧ ((cvF c n).getD i (0, 0)).1 < 2 ^ n ∧ 0 ≤ ((cvF c n).getD i (0, 0)).2 ∧ ((cvF c n).getD i (0, 0)).2 < 2 ^ n ∧ ixS c n ((cvF c n).getD i (0, 0)).1.toNat ((cvF c n).getD i (0, 0)).2.toNat = (i : Int) := by
  have := cvChk_at c n (cvF c n) 0 i (cv_all c hc n hn) (by rw [cvF_len]; exact hi)
  rwa [Nat.zero_add] at this
end Go.Proofs.YtnmnlbgialolhaaDoor

/- Contracts of single functions, and plain lemmas, on which the exact laws of this seat rest; each holds under the conditions that it states. -/
namespace Go.Proofs.YtnmnlbgialolhaaDoor
set_option linter.unusedVariables false
set_option linter.unusedSimpArgs false
open Go.RowKit
attribute [local go_sem] Oper.semAt_some

theorem r8Long_any (v0 v1 : Value) (ns ms : List Nat) (w : World) (h0 : SlY w v0 ns) (h1 : SlY w v1 ms) : Calls Tryd.prog 32 #[v0, v1] w (fun e w' => e = .returned (.bool (decide (48 < ns.length) || decide (48 < ms.length))) ∧ w = w') := by
  obtain ⟨ao, cap, rfl⟩ := h0.form
  obtain ⟨ao1, cap1, rfl⟩ := h1.form
  clear h0 h1
  by_cases h : 48 < ns.length
  · rw [decide_eq_true h, Bool.true_or]
    go_enter Tryd.func32, Tryd.ntmps32
    go_wp2_with fail
    go_ret
    exact ⟨rfl, rfl⟩
  · rw [decide_eq_false h, Bool.false_or]
    go_enter Tryd.func32, Tryd.ntmps32
    go_wp2_with fail
    go_ret
    exact ⟨ret_bool (by rw [decide_eq_false (show ¬ (48 : Int) < (ns.length : Int) by omega), Bool.false_or]; exact decide_eq_decide.2 (by omega)), rfl⟩

end Go.Proofs.YtnmnlbgialolhaaDoor
