/- Contracts of single functions, and plain lemmas, on which the exact laws of this seat rest; each holds under the conditions that it states. -/
import Derived.Test.YtnmnlbgialolhaaDoorCVD
import Derived.Test.YtnmnlbgialolhaaDoorD1
import Derived.Test.YtnmnlbgialolhaaDoorRI
namespace Go.Proofs.YtnmnlbgialolhaaDoor
set_option linter.unusedVariables false
set_option linter.unusedSimpArgs false
open Go.RowKit
attribute [local go_sem] Oper.semAt_some

theorem cvL_small (c n : Nat) (hn : n ≤ 4) : ∀ k, k ≤ 2 ^ n * 2 ^ n → ∀ p ∈ cvL c n k, Small p.1 ∧ Small p.2
  | 0, _, p, hp => by
    have := (List.mem_replicate.1 hp).2
    subst this
    unfold Small
    decide
  | k + 1, hk, p, hp => by
    have h16 := pow_le16 hn
    have h1 : 1 ≤ 2 ^ n := Nat.one_le_two_pow
    rcases List.mem_or_eq_of_mem_set hp with h | h
    · exact cvL_small c n hn k (by omega) p h
    · subst h
      have d1 : k % 2 ^ n < 2 ^ n := Nat.mod_lt _ h1
      have d2 : k / 2 ^ n < 2 ^ n := Nat.div_lt_of_lt_mul (by omega)
      revert d1 d2
      generalize k % 2 ^ n = u
      generalize k / 2 ^ n = v
      intro d1 d2
      exact ⟨⟨by show (-40 : Int) ≤ (u : Int); omega, by show (u : Int) ≤ 40; omega⟩, by show (-40 : Int) ≤ (v : Int); omega, by show (v : Int) ≤ 40; omega⟩
theorem cvF_small (c n : Nat) (hn : n ≤ 4) (i : Nat) : Small ((cvF c n).getD i (0, 0)).1 ∧ Small ((cvF c n).getD i (0, 0)).2 := by
  rw [List.getD_eq_getElem?_getD]
  cases h : (cvF c n)[i]? with
  | none => exact ⟨⟨by decide, by decide⟩, by decide, by decide⟩
  | some p => exact cvL_small c n hn _ (Nat.le_refl _) p (List.mem_of_getElem? h)
/-- how far it is from a spot to the next one -/
def jmp (L : List (Int × Int)) (k : Nat) : Int := farI 0 (L.getD k (0, 0)).1 (L.getD k (0, 0)).2 (L.getD (k + 1) (0, 0)).1 (L.getD (k + 1) (0, 0)).2
def mxJ (L : List (Int × Int)) : Nat → Int
  | 0 => 0
  | k + 1 => max (mxJ L k) (jmp L k)
def ljV (c n : Int) : Int := if (inB c 0 3 && inB n 0 4) = true then mxJ (cvF c.toNat n.toNat) ((cvF c.toNat n.toNat).length - 1) else 0

end Go.Proofs.YtnmnlbgialolhaaDoor
