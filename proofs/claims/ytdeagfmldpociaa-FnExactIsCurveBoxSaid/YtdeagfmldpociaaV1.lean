/- Contracts of single functions, and plain lemmas, on which the exact laws of this seat rest; each holds under the conditions that it states. -/
import Derived.Test.YtdeagfmldpociaaI1
import Derived.Deep.RegionHeld3
namespace Go.Proofs.Ytdeagfmldpociaa
set_option linter.unusedVariables false
set_option linter.unusedSimpArgs false
open Go.RowKit

/-! ### rows of rows of numbers -/
theorem grown_cell (w : World) (a : Addr) (u : Value) : w.grownBy (w.setCell a u) (some a.block) :=
  ⟨rfl, rfl, rfl, by simp, fun k _ hk => heap_setCell_other w a k u (fun e => hk (by rw [e]))⟩

/-- a row stays that one's block stays -/
theorem own_keep {w w' : World} {base n s : Nat} {e : TypeId} {v : Value} {xs : List Value} (h : w.ownsRow base e s v n xs) (hk : ∀ k, v.ownBlock = some k → w'.heap[k]? = w.heap[k]?) : w'.ownsRow base e s v n xs := by
  obtain ⟨h1, h2⟩ := h
  refine ⟨h1, ?_⟩
  rcases h2 with h2 | ⟨g, cap, cur, hv, hg, hh, r⟩
  · exact Or.inl h2
  · exact Or.inr ⟨g, cap, cur, hv, hg, (hk g (by subst hv; rfl)).trans hh, r⟩
/-- rows of two types lie in two blocks -/
theorem own_two {w : World} {base base2 n n2 s s2 : Nat} {e e2 : TypeId} {v v2 : Value} {xs xs2 : List Value} (h : w.ownsRow base e s v n xs) (h2 : w.ownsRow base2 e2 s2 v2 n2 xs2) (he : e ≠ e2) : ∀ k, v.ownBlock = some k → v2.ownBlock ≠ some k := by
  intro k hk
  rcases h.2 with ⟨hv, _⟩ | ⟨g, cap, cur, hv, _, hg, _⟩
  · subst hv; simp [Value.ownBlock] at hk
  · subst hv
    obtain rfl : g = k := by simpa [Value.ownBlock] using hk
    exact own_ne h2 hg he

section
variable {w w' : World} {lo hi n : Nat} {v : Value} {us : Nat → Value} {f : Nat → List Int}
end

/-- the rows can be read -/
def SlR (w : World) (v : Value) (n : Nat) (f : Nat → List Int) : Prop :=
  (∃ ao cap, v = .slice ao 0 cap ∧ n = 0) ∨ (∃ (b off cap : Nat) (us : Nat → Value), v = .slice (some ⟨b, off, none⟩) n cap ∧ 0 < n ∧ b < w.heap.size ∧ ∀ i, i < n → w.cell? ⟨b, off + i, none⟩ = some (us i) ∧ SlN w (us i) (f i))
theorem SlR.below {w w' : World} {v : Value} {n : Nat} {f : Nat → List Int} (h : SlR w v n f) (hb : Below w.heap.size w w') : SlR w' v n f := by
  rcases h with h | ⟨b, off, cap, us, h1, h2, h3, h4⟩
  · exact Or.inl h
  · exact Or.inr ⟨b, off, cap, us, h1, h2, Nat.lt_of_lt_of_le h3 hb.size, fun i hi => ⟨cell_kept hb (h4 i hi).1, (h4 i hi).2.below hb⟩⟩
theorem SlR.form {w : World} {v : Value} {n : Nat} {f : Nat → List Int} (h : SlR w v n f) : ∃ ao cap, v = .slice ao n cap := by
  rcases h with ⟨ao, cap, rfl, rfl⟩ | ⟨b, off, cap, us, rfl, _⟩
  · exact ⟨_, _, rfl⟩
  · exact ⟨_, _, rfl⟩

/-! ### the marks -/
def offR (f : Nat → List Int) : Nat → Nat
  | 0 => 0
  | j + 1 => offR f j + (f j).length
theorem offR_le (f : Nat → List Int) {j : Nat} : ∀ {n : Nat}, j ≤ n → offR f j ≤ offR f n
  | 0, h => by obtain rfl : j = 0 := by omega
               exact Nat.le_refl _
  | n + 1, h => by
    by_cases e : j = n + 1
    · subst e; exact Nat.le_refl _
    · have := offR_le f (n := n) (j := j) (by omega)
      show _ ≤ offR f n + (f n).length
      omega
def markR (f : Nat → List Int) (k i : Nat) : List Int := marksN (k + offR f i) (f i).length
def mixR (f : Nat → List Int) (k j i : Nat) : List Int := if i < j then markR f k i else f i
end Go.Proofs.Ytdeagfmldpociaa
