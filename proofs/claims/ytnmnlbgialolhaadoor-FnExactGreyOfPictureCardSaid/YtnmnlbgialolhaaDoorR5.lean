/- Contracts of single functions, and plain lemmas, on which the exact laws of this seat rest; each holds under the conditions that it states. -/
import Derived.Test.YtnmnlbgialolhaaDoorR3
import Derived.Test.YtnmnlbgialolhaaDoorI1
namespace Go.Proofs.YtnmnlbgialolhaaDoor
set_option linter.unusedVariables false
set_option linter.unusedSimpArgs false
open Go.RowKit

/-- how many of the first k pixels of a quad are black -/
def cntQ (b0 b1 b2 b3 : Bool) : Nat → Nat
  | 0 => 0
  | 1 => b0.toNat
  | 2 => b0.toNat + b1.toNat
  | 3 => b0.toNat + b1.toNat + b2.toNat
  | _ => b0.toNat + b1.toNat + b2.toNat + b3.toNat
theorem cntQ_le (b0 b1 b2 b3 : Bool) (k : Nat) : cntQ b0 b1 b2 b3 k ≤ 4 := by
  have h0 := Bool.toNat_le b0
  have h1 := Bool.toNat_le b1
  have h2 := Bool.toNat_le b2
  have h3 := Bool.toNat_le b3
  unfold cntQ
  split <;> omega
/-- the kind of a quad: none, one, three, across -/
def kdN (b0 b1 b2 b3 : Bool) : Nat :=
  if cntQ b0 b1 b2 b3 4 = 1 then 1 else if cntQ b0 b1 b2 b3 4 = 3 then 2 else if cntQ b0 b1 b2 b3 4 = 2 ∧ b0 = b2 then 3 else 0
theorem kdN_le (b0 b1 b2 b3 : Bool) : kdN b0 b1 b2 b3 ≤ 3 := by
  unfold kdN
  split
  · omega
  · split
    · omega
    · split <;> omega
section
variable (b0 b1 b2 b3 : Bool) (w : World)
end

end Go.Proofs.YtnmnlbgialolhaaDoor

/- Contracts of single functions, and plain lemmas, on which the exact laws of this seat rest; each holds under the conditions that it states. -/
namespace Go.Proofs.YtnmnlbgialolhaaDoor
set_option linter.unusedVariables false
set_option linter.unusedSimpArgs false
open Go.RowKit

/-- the kind of the quad around a corner -/
def kdP (p : Int → Int → Bool) (x y : Int) : Nat := kdN (p x y) (p (x + -1) y) (p (x + -1) (y + -1)) (p x (y + -1))
/-- how many of the first t quads have a kind -/
def qc (p : Int → Int → Bool) (n j : Nat) : Nat → Nat
  | 0 => 0
  | t + 1 => qc p n j t + (if kdP p ((t % n : Nat) : Int) ((t / n : Nat) : Int) = j then 1 else 0)
theorem qc_le (p : Int → Int → Bool) (n j : Nat) : ∀ t, qc p n j t ≤ t
  | 0 => Nat.le_refl _
  | t + 1 => by have := qc_le p n j t; simp only [qc]; split <;> omega
theorem qc_snoc (p : Int → Int → Bool) (n j y x : Nat) (hx : x < n) : qc p n j (y * n + x + 1) = qc p n j (y * n + x) + (if kdP p (x : Int) (y : Int) = j then 1 else 0) := by
  have h1 : (y * n + x) / n = y := by rw [Nat.mul_comm, Nat.mul_add_div (by omega), Nat.div_eq_of_lt hx, Nat.add_zero]
  have h2 : (y * n + x) % n = x := by rw [Nat.mul_comm, Nat.mul_add_mod, Nat.mod_eq_of_lt hx]
  simp only [qc, h1, h2]
def qL (p : Int → Int → Bool) (n t : Nat) : List Int := [((qc p n 1 t : Nat) : Int), ((qc p n 2 t : Nat) : Int), ((qc p n 3 t : Nat) : Int)]
theorem qL_zero (p : Int → Int → Bool) (n : Nat) : qL p n 0 = [0, 0, 0] := rfl
theorem kdP_le (p : Int → Int → Bool) (x y : Int) : kdP p x y ≤ 3 := kdN_le _ _ _ _
theorem qL_none {p : Int → Int → Bool} {n y x : Nat} (hx : x < n) (h : kdP p (x : Int) (y : Int) = 0) : qL p n (y * n + x + 1) = qL p n (y * n + x) := by
  unfold qL
  rw [qc_snoc _ _ _ _ _ hx, qc_snoc _ _ _ _ _ hx, qc_snoc _ _ _ _ _ hx, h]
  simp
theorem qL_some {p : Int → Int → Bool} {n y x k : Nat} (hx : x < n) (hk : k < 3) (h : kdP p (x : Int) (y : Int) = k + 1) : numsV (qL p n (y * n + x + 1)) = (numsV (qL p n (y * n + x))).set k (.int .i64 (((qc p n (k + 1) (y * n + x) : Nat) : Int) + 1)) := by
  unfold qL
  rw [qc_snoc _ _ _ _ _ hx, qc_snoc _ _ _ _ _ hx, qc_snoc _ _ _ _ _ hx, h]
  rcases (by omega : k = 0 ∨ k = 1 ∨ k = 2) with rfl | rfl | rfl <;> simp [numsV]
theorem qL_at (p : Int → Int → Bool) (n t : Nat) {k : Nat} (hk : k < 3) : (numsV (qL p n t))[k]? = some (.int .i64 ((qc p n (k + 1) t : Nat) : Int)) := by
  rcases (by omega : k = 0 ∨ k = 1 ∨ k = 2) with rfl | rfl | rfl <;> rfl
theorem black_pix {ss : List ByteArray} (V : VP ss) (x y : Int) : blackB (row0 ss).size ss.length (wordsOf ss) x y = pixI ss x y := by
  unfold blackB pixI
  have e : hasB (row0 ss).size ss.length x y = insB (row0 ss).size ss.length x y := by
    unfold hasB insB inB
    rw [Bool.eq_iff_iff]
    simp
    omega
  rw [e]
  cases h : insB (row0 ss).size ss.length x y with
  | false => rfl
  | true =>
    unfold insB inB at h
    simp at h
    obtain ⟨⟨h1, h2⟩, h3, h4⟩ := h
    obtain ⟨i, rfl⟩ := Int.eq_ofNat_of_zero_le h1
    obtain ⟨j, rfl⟩ := Int.eq_ofNat_of_zero_le h3
    simp only [Bool.true_and, Int.toNat_natCast]
    exact words_at V j i (by omega) (by omega)
/-- the three numbers of a picture -/
def qcV (ss : List ByteArray) : List Int := if validB ss = true then qL (pixI ss) ((row0 ss).size + 1) ((ss.length + 1) * ((row0 ss).size + 1)) else []
theorem qcV_len (ss : List ByteArray) : (qcV ss).length ≤ 3 := by
  unfold qcV
  split <;> simp [qL]
end Go.Proofs.YtnmnlbgialolhaaDoor
