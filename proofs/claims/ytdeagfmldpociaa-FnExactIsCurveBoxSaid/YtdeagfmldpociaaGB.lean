/- Contracts of single functions, and plain lemmas, on which the exact laws of this seat rest; each holds under the conditions that it states. -/
import Derived.Test.YtdeagfmldpociaaGA
import Derived.Test.YtdeagfmldpociaaRc
namespace Go.Proofs.Ytdeagfmldpociaa
set_option linter.unusedVariables false
set_option linter.unusedSimpArgs false
open Go.RowKit

theorem Far.refl (l r : Nat) (W : World) : Far l r W W := ⟨rfl, rfl, rfl, Nat.le_refl _, fun _ _ _ => rfl⟩
theorem Far.trans {l r : Nat} {a b c : World} (h : Far l r a b) (k : Far l r b c) : Far l r a c :=
  ⟨k.os.trans h.os, k.tape.trans h.tape, k.output.trans h.output, Nat.le_trans h.size k.size, fun i hi hd => (k.block i (Nat.lt_of_lt_of_le hi h.size) hd).trans (h.block i hi hd)⟩

/-! ### grey pictures -/
def rowF (gs : List (List Int)) (i : Nat) : List Int := gs.getD i []
def SlG (W : World) (v : Value) (gs : List (List Int)) : Prop := SlR W v gs.length (rowF gs)
theorem SlG.below {W W' : World} {v : Value} {gs : List (List Int)} (h : SlG W v gs) (hb : Below W.heap.size W W') : SlG W' v gs := SlR.below h hb
/-- all numbers together -/
def totG (gs : List (List Int)) : Nat := offR (rowF gs) gs.length
/-- the marks of all numbers, from k on -/
def marksG (k : Nat) (gs : List (List Int)) : List (List Int) := (List.range gs.length).map (markR (rowF gs) k)
theorem marksG_len (k : Nat) (gs : List (List Int)) : (marksG k gs).length = gs.length := by simp [marksG]
theorem marksG_row (k : Nat) (gs : List (List Int)) (i : Nat) (h : i < gs.length) : rowF (marksG k gs) i = markR (rowF gs) k i := by
  show ((List.range gs.length).map (markR (rowF gs) k)).getD i [] = _
  rw [List.getD_eq_getElem?_getD]
  simp [h]
theorem SlG.marks {W : World} {v : Value} {k : Nat} {gs : List (List Int)} (h : SlG W v (marksG k gs)) : SlR W v gs.length (markR (rowF gs) k) := by
  unfold SlG at h
  rw [marksG_len] at h
  rcases h with h | ⟨b, off, cap, us, h1, h2, h3, h4⟩
  · exact Or.inl h
  · refine Or.inr ⟨b, off, cap, us, h1, h2, h3, fun i hi => ⟨(h4 i hi).1, ?_⟩⟩
    rw [← marksG_row k gs i hi]
    exact (h4 i hi).2
def SomeSzG (left : Int) (gs : List (List Int)) (w : World) (e : Ending) (w' : World) : Prop :=
  ∃ r : Int, e = .returned (.int .i64 r) ∧ r ≤ left ∧ -1 ≤ r ∧ (0 ≤ r → (gs.length : Int) + (totG gs : Nat) ≤ left) ∧ Below w.heap.size w w'
theorem offR_row (f : Nat → List Int) : ∀ {n i : Nat}, i < n → (f i).length ≤ offR f n
  | 0, i, h => absurd h (Nat.not_lt_zero i)
  | n + 1, i, h => by
    show _ ≤ offR f n + (f n).length
    by_cases e : i = n
    · subst e; omega
    · have := offR_row f (n := n) (i := i) (by omega)
      omega
theorem rows_small {gs : List (List Int)} (h : gs.length + totG gs ≤ 1048576) : ∀ i, i < gs.length → (rowF gs i).length ≤ 1048576 := fun i hi => by
  have := offR_row (rowF gs) hi
  unfold totG at h
  omega
theorem rows_max {gs : List (List Int)} (h : gs.length + totG gs ≤ 1048576) : ∀ i, i < gs.length → (rowF gs i).length ≤ maxLen := fun i hi => by
  have := rows_small h i hi
  unfold maxLen; omega
theorem offR_bound (f : Nat → List Int) (c : Nat) : ∀ n, (∀ i, i < n → (f i).length ≤ c) → offR f n ≤ n * c
  | 0, _ => by simp [offR]
  | n + 1, h => by
    have h1 := offR_bound f c n (fun i hi => h i (by omega))
    have h2 := h n (by omega)
    show offR f n + (f n).length ≤ _
    rw [Nat.add_mul, Nat.one_mul]
    omega
theorem small_grey {gs : List (List Int)} (h1 : gs.length ≤ 16) (h2 : ∀ i, i < gs.length → (rowF gs i).length ≤ 16) : gs.length + totG gs ≤ 1000 := by
  have := offR_bound (rowF gs) 16 gs.length h2
  unfold totG
  omega
end Go.Proofs.Ytdeagfmldpociaa
