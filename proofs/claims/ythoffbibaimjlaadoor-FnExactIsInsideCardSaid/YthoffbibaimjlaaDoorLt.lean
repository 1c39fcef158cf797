/- Contracts of single functions, and plain lemmas, on which the exact laws of this seat rest; each holds under the conditions that it states. -/
import Derived.Test.YthoffbibaimjlaaDoorBq
import Derived.Test.YthoffbibaimjlaaDoorSp
namespace Go.Proofs.YthoffbibaimjlaaDoor
set_option linter.unusedVariables false
open Go.RowKit

/-! ### the list of a picture's pixels -/
def pixF (ss : List ByteArray) (y x : Nat) : Bool := blackAt (ss.getD y ByteArray.empty) x
def pixL (ss : List ByteArray) (wd N : Nat) : List Bool := (List.range N).map fun i => pixF ss (i / wd) (i % wd)
def boolV (l : List Bool) : List Value := l.map Value.bool
theorem pixL_len (ss : List ByteArray) (wd N : Nat) : (pixL ss wd N).length = N := by simp [pixL]
theorem pixL_snoc (ss : List ByteArray) (wd y x : Nat) (hx : x < wd) : boolV (pixL ss wd (y * wd + x + 1)) = boolV (pixL ss wd (y * wd + x)) ++ [.bool (pixF ss y x)] := by
  have h1 : (y * wd + x) / wd = y := by rw [Nat.mul_comm, Nat.mul_add_div (by omega), Nat.div_eq_of_lt hx, Nat.add_zero]
  have h2 : (y * wd + x) % wd = x := by rw [Nat.mul_comm, Nat.mul_add_mod, Nat.mod_eq_of_lt hx]
  simp [boolV, pixL, List.range_succ, h1, h2]
theorem pixL_at (ss : List ByteArray) (wd h y x : Nat) (hy : y < h) (hx : x < wd) : (pixL ss wd (wd * h)).getD (y * wd + x) false = pixF ss y x := by
  have h1 : (y * wd + x) / wd = y := by rw [Nat.mul_comm, Nat.mul_add_div (by omega), Nat.div_eq_of_lt hx, Nat.add_zero]
  have h2 : (y * wd + x) % wd = x := by rw [Nat.mul_comm, Nat.mul_add_mod, Nat.mod_eq_of_lt hx]
  have h3 : (y + 1) * wd ≤ h * wd := Nat.mul_le_mul_right _ hy
  rw [Nat.add_mul, Nat.one_mul, Nat.mul_comm h wd] at h3
  have hlt : y * wd + x < wd * h := by omega
  simp [pixL, List.getD, hlt, h1, h2]

def Listed (ss : List ByteArray) (w : World) (e : Ending) (w' : World) : Prop :=
  ∃ g cap, e = .returned (.slice (some ⟨g, 0, none⟩) ((row0 ss).size * ss.length) cap) ∧ w'.ownsRow w.heap.size 4 1 (.slice (some ⟨g, 0, none⟩) ((row0 ss).size * ss.length) cap) ((row0 ss).size * ss.length) (boolV (pixL ss (row0 ss).size ((row0 ss).size * ss.length))) ∧ Below w.heap.size w w'

theorem black35 (s : ByteArray) (x : Nat) (h : x < s.size) : (((s[x]'h).toNat : Int) == 35) = blackAt s x := by
  have hb := blackAt_eq s x h
  cases hbit : blackAt s x with
  | true =>
    rw [hbit] at hb
    have := beq_iff_eq.1 hb.symm
    rw [this]; rfl
  | false =>
    rw [hbit] at hb
    rw [beq_eq_false_iff_ne]
    intro e
    have := b35 (c := s[x]) (Int.ofNat_inj.1 e)
    rw [this] at hb
    exact absurd hb (by decide)
end Go.Proofs.YthoffbibaimjlaaDoor
