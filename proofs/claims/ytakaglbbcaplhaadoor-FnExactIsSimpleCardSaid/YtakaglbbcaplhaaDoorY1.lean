/- Contracts of single functions, and plain lemmas, on which the exact laws of this seat rest; each holds under the conditions that it states. -/
import Derived.Test.YtakaglbbcaplhaaDoorW7
import Derived.Test.YtakaglbbcaplhaaDoorW8
import Derived.Test.YtakaglbbcaplhaaDoorS6
namespace Go.Proofs.YtakaglbbcaplhaaDoor
set_option linter.unusedVariables false
set_option linter.unusedSimpArgs false
open Go.RowKit

/-! ### the parts around the middle of 3 by 3 -/
theorem putL_len (n : Int) (xs : List Int) : (putL n xs).length ≤ 2 * xs.length + 1 := by
  have := putG_len n xs
  unfold putL
  split
  · omega
  · simp; omega
def mid3 (d : Int × Int) : Nat := ((1 + d.2) * 3 + 1 + d.1).toNat
def seenS (PS : List (Nat → Bool)) (sn : List Int) (d : Int × Int) : List Int := if 0 < lab PS (mid3 d) then putL ((lab PS (mid3 d) : Nat) : Int) sn else sn
def seenL (PS : List (Nat → Bool)) (S : List (Int × Int)) : List Int := S.foldl (seenS PS) []
theorem seenL_snoc (PS : List (Nat → Bool)) (S : List (Int × Int)) (d : Int × Int) : seenL PS (S ++ [d]) = seenS PS (seenL PS S) d := by simp [seenL]
theorem seenL_len (PS : List (Nat → Bool)) (S : List (Int × Int)) : ∀ j, (seenL PS (S.take j)).length + 1 ≤ 2 ^ j
  | 0 => by simp [seenL]
  | j + 1 => by
    have ih := seenL_len PS S j
    have hp : 2 ^ (j + 1) = 2 * 2 ^ j := by rw [Nat.pow_succ, Nat.mul_comm]
    by_cases hj : j < S.length
    · have e : S.take (j + 1) = S.take j ++ [S[j]] := by rw [List.take_add_one, List.getElem?_eq_getElem hj]; rfl
      rw [e, seenL_snoc]
      unfold seenS
      split
      · have := putL_len ((lab PS (mid3 S[j]) : Nat) : Int) (seenL PS (S.take j))
        omega
      · omega
    · have e : S.take (j + 1) = S.take j := by rw [List.take_of_length_le (by omega), List.take_of_length_le (by omega)]
      rw [e]
      omega
noncomputable def partsN (ss : List ByteArray) (e8 : Bool) : Nat :=
  (seenL (partsP (pixI ss) (stepL e8) (row0 ss).size (spL (pixF ss) (row0 ss).size ((row0 ss).size * ss.length)) []) (stepL e8)).length
theorem mid3_rng (e8 : Bool) : ∀ d ∈ stepL e8, 0 ≤ (1 + d.2) * 3 + 1 + d.1 ∧ (1 + d.2) * 3 + 1 + d.1 < 9 := by cases e8 <;> decide

end Go.Proofs.YtakaglbbcaplhaaDoor

/- Contracts of single functions, and plain lemmas, on which the exact laws of this seat rest; each holds under the conditions that it states. -/
namespace Go.Proofs.YtakaglbbcaplhaaDoor
set_option linter.unusedVariables false
set_option linter.unusedSimpArgs false
open Go.RowKit

/-- is a black pixel simple -/
noncomputable def simN (p : Int → Int → Bool) (x y : Int) (e8 : Bool) : Bool :=
  decide (partsN (mkPic 3 3 (arF p true x y)) e8 = 1) && decide (partsN (mkPic 3 3 (arF p false x y)) (!e8) = 1)

end Go.Proofs.YtakaglbbcaplhaaDoor
