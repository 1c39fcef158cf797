/- Contracts of single functions, and plain lemmas, on which the exact laws of this seat rest; each holds under the conditions that it states. -/
import Derived.Test.YtnmnlbgialolhaaDoorIs
namespace Go.Proofs.YtnmnlbgialolhaaDoor
set_option linter.unusedVariables false
set_option linter.unusedSimpArgs false
open Go.RowKit

/-! ### an argument that is a slice of bytes -/
def SlY (w : World) (v : Value) (ns : List Nat) : Prop :=
  (∃ ao cap, v = .slice ao 0 cap ∧ ns = []) ∨ (∃ b off cap, v = .slice (some ⟨b, off, none⟩) ns.length cap ∧ 0 < ns.length ∧ b < w.heap.size ∧ ∀ i, i < ns.length → w.cell? ⟨b, off + i, none⟩ = some (.int .u8 ((ns.getD i 0 : Nat) : Int)))
theorem SlY.below {w w' : World} {v : Value} {ns : List Nat} (h : SlY w v ns) (hb : Below w.heap.size w w') : SlY w' v ns := by
  rcases h with h | ⟨b, off, cap, h1, h2, h3, h4⟩
  · exact Or.inl h
  · exact Or.inr ⟨b, off, cap, h1, h2, Nat.lt_of_lt_of_le h3 hb.size, fun i hi => (hb.cell (p := ⟨_, _, none⟩) h3).trans (h4 i hi)⟩
theorem SlY.form {w : World} {v : Value} {ns : List Nat} (h : SlY w v ns) : ∃ ao cap, v = .slice ao ns.length cap := by
  rcases h with ⟨ao, cap, rfl, rfl⟩ | ⟨b, off, cap, rfl, _⟩
  · exact ⟨_, _, rfl⟩
  · exact ⟨_, _, rfl⟩

/-! ### the number that a byte chooses -/
def r8F (ns : List Nat) (k n : Int) : Int := if n ≤ 1 ∨ (ns.length : Int) ≤ k then 0 else ((ns.getD k.toNat 0 : Nat) : Int) % n
theorem r8F_lt (ns : List Nat) (k n : Int) (hn : 1 ≤ n) : 0 ≤ r8F ns k n ∧ r8F ns k n < n := by
  unfold r8F
  split
  · omega
  · exact ⟨Int.emod_nonneg _ (by omega), Int.emod_lt_of_pos _ (by omega)⟩

end Go.Proofs.YtnmnlbgialolhaaDoor
