/- Contracts of single functions, and plain lemmas, on which the exact laws of this seat rest; each holds under the conditions that it states. -/
import Derived.Test.YtaopdhncapoefaaAh
import Derived.Test.YtaopdhncapoefaaQk
import Derived.Deep.RegionLaw
import Derived.OwnWalk
namespace Go.Proofs.Ytaopdhncapoefaa
set_option linter.unusedVariables false
set_option linter.unusedSimpArgs false
open Go.RowKit

/-! ### a spot put into a list in order -/
/-- what is put at place t -/
def putAt (xs : List (Int × Int)) (p : Int × Int) (t : Nat) : List (Int × Int) := xs.take t ++ [p] ++ xs.drop t
theorem putAt_len (xs : List (Int × Int)) (p : Int × Int) (t : Nat) : (putAt xs p t).length = xs.length + 1 := by
  unfold putAt
  simp
  omega
theorem putAt_mem (xs : List (Int × Int)) (p q : Int × Int) (t : Nat) : q ∈ putAt xs p t ↔ (q = p ∨ q ∈ xs) := by
  unfold putAt
  have h := List.take_append_drop t xs
  rw [List.mem_append, List.mem_append, List.mem_singleton]
  conv => rhs; rw [← h, List.mem_append]
  constructor
  · rintro ((h | h) | h)
    · exact Or.inr (Or.inl h)
    · exact Or.inl h
    · exact Or.inr (Or.inr h)
  · rintro (h | h | h)
    · exact Or.inl (Or.inr h)
    · exact Or.inl (Or.inl h)
    · exact Or.inr h
theorem bef_tri (a b : Int × Int) (h : ¬ befB a b = true) : a = b ∨ befB b a = true := by
  rw [bef_iff] at *
  obtain ⟨a1, a2⟩ := a
  obtain ⟨b1, b2⟩ := b
  simp only at *
  by_cases e : a1 = b1 ∧ a2 = b2
  · left; rw [e.1, e.2]
  · right; omega
theorem putAt_srt {xs : List (Int × Int)} {p : Int × Int} {t : Nat} (hs : Srt xs) (h1 : ∀ j, j < t → befB (xs.getD j (0, 0)) p = true) (ht : t ≤ xs.length) (h2 : t < xs.length → befB p (xs.getD t (0, 0)) = true) : Srt (putAt xs p t) := by
  have hsp : Srt (xs.take t ++ xs.drop t) := by rw [List.take_append_drop]; exact hs
  unfold Srt at hsp
  rw [List.pairwise_append] at hsp
  have A : ∀ a ∈ xs.take t, befB a p = true := fun a ha => by
    obtain ⟨j, hj, e⟩ := List.mem_take_iff_getElem.1 ha
    have := h1 j (by omega)
    rwa [getD_of_lt (by omega), e] at this
  have B : ∀ b ∈ xs.drop t, befB p b = true := fun b hb => by
    obtain ⟨j, hj, e⟩ := List.mem_drop_iff_getElem.1 hb
    have h3 := h2 (by omega)
    rw [getD_of_lt (by omega)] at h3
    by_cases hj0 : j = 0
    · subst hj0
      simp only [Nat.add_zero] at e
      rw [← e]; exact h3
    · unfold Srt at hs
      rw [List.pairwise_iff_getElem] at hs
      have := hs t (t + j) (by omega) (by omega) (by omega)
      rw [e] at this
      exact bef_trans h3 this
  unfold putAt Srt
  rw [List.pairwise_append, List.pairwise_append]
  refine ⟨⟨hsp.1, List.pairwise_singleton _ _, fun a ha b hb => ?_⟩, hsp.2.1, fun a ha b hb => ?_⟩
  · rw [List.mem_singleton] at hb; subst hb; exact A a ha
  · rcases List.mem_append.1 ha with h | h
    · exact bef_trans (A a h) (B b hb)
    · rw [List.mem_singleton] at h; subst h; exact B b hb

/-- the first t of a row of the call's own are a row of its own -/
theorem own_take {w : World} {base g n cap s : Nat} {e : TypeId} {xs : List Value} (h : w.ownsRow base e s (.slice (some ⟨g, 0, none⟩) n cap) n xs) (t : Nat) (ht : t ≤ n) : w.ownsRow base e s (.slice (some ⟨g, 0, none⟩) t cap) t (xs.take (t * s)) := by
  obtain ⟨h1, h2⟩ := h
  have hts : t * s ≤ n * s := Nat.mul_le_mul ht (Nat.le_refl _)
  refine ⟨by rw [List.length_take, h1]; omega, ?_⟩
  rcases h2 with ⟨hv, _⟩ | ⟨g', cap', cur, hv, hb, hg, hc, hm, hsz, htk⟩
  · cases hv
  · cases hv
    exact Or.inr ⟨g, cap, cur, rfl, hb, hg, by omega, hm, hsz, by rw [← htk, List.take_take, Nat.min_eq_left hts]⟩
theorem flat2_take (xs : List (Int × Int)) (t : Nat) (ht : t ≤ xs.length) : (flat2 xs).take (t * 2) = flat2 (xs.take t) := by
  apply List.ext_getElem?
  intro j
  by_cases hj : j < t * 2
  · rw [List.getElem?_take_of_lt hj, flat2_at _ _ (by omega), flat2_at _ _ (by rw [List.length_take]; omega)]
    unfold spotC
    have : ∀ i, i < t → (xs.take t).getD i (0, 0) = xs.getD i (0, 0) := fun i hi => by
      rw [List.getD_eq_getElem?_getD, List.getD_eq_getElem?_getD, List.getElem?_take_of_lt hi]
    rw [this _ (by omega)]
  · rw [List.getElem?_eq_none (by rw [List.length_take]; omega), List.getElem?_eq_none (by rw [flat2_len, List.length_take]; omega)]
theorem flat2_drop_at (xs : List (Int × Int)) (t j : Nat) (hj : j < (xs.length - t) * 2) : ((flat2 xs).drop (t * 2))[j]? = some (.int .i64 (spotC xs (t * 2 + j))) := by
  rw [List.getElem?_drop, flat2_at _ _ (by omega)]
theorem flat2_append (xs : List (Int × Int)) : ∀ (n : Nat) (ys : List (Int × Int)), ys.length = n → flat2 (xs ++ ys) = flat2 xs ++ flat2 ys
  | 0, ys, h => by
    have := List.length_eq_zero_iff.1 h
    subst this
    simp [flat2]
  | n + 1, ys, h => by
    rcases List.eq_nil_or_concat ys with rfl | ⟨zs, z, rfl⟩
    · simp at h
    · obtain ⟨a, b⟩ := z
      have ih := flat2_append xs n zs (by simp at h; omega)
      simp only [List.concat_eq_append]
      rw [← List.append_assoc, flat2_snoc, ih, flat2_snoc, List.append_assoc]
theorem flat2_drop (xs : List (Int × Int)) (t : Nat) (ht : t ≤ xs.length) : (flat2 xs).drop (t * 2) = flat2 (xs.drop t) := by
  have h : flat2 (xs.take t ++ xs.drop t) = flat2 (xs.take t) ++ flat2 (xs.drop t) := flat2_append _ _ _ rfl
  rw [List.take_append_drop] at h
  rw [h, List.drop_append_of_le_length (by rw [flat2_len, List.length_take]; omega), List.drop_of_length_le (by rw [flat2_len, List.length_take]; omega), List.nil_append]
end Go.Proofs.Ytaopdhncapoefaa
