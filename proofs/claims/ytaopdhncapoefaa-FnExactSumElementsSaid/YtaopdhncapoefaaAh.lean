/- Contracts of single functions, and plain lemmas, on which the exact laws of this seat rest; each holds under the conditions that it states. -/
import Derived.Test.YtaopdhncapoefaaAb
import Derived.Test.YtaopdhncapoefaaA1
namespace Go.Proofs.Ytaopdhncapoefaa
set_option linter.unusedVariables false
set_option linter.unusedSimpArgs false
open Go.RowKit

/-! ### valid elements are those that an element of their own offsets is -/
theorem bef_iff (a b : Int × Int) : befB a b = true ↔ (a.2 < b.2 ∨ (a.2 = b.2 ∧ a.1 < b.1)) := by simp [befB]
theorem bef_trans {a b c : Int × Int} (h : befB a b = true) (k : befB b c = true) : befB a c = true := by
  rw [bef_iff] at *; omega
theorem bef_irr (a : Int × Int) : ¬ befB a a = true := by rw [bef_iff]; omega
theorem bef_asym {a b : Int × Int} (h : befB a b = true) : ¬ befB b a = true := by rw [bef_iff] at *; omega
abbrev Srt (l : List (Int × Int)) : Prop := l.Pairwise (fun a b => befB a b = true)
theorem srt_eq : ∀ {l1 l2 : List (Int × Int)}, Srt l1 → Srt l2 → (∀ p, p ∈ l1 ↔ p ∈ l2) → l1 = l2
  | [], [], _, _, _ => rfl
  | [], b :: l2, _, _, h => absurd ((h b).2 (List.mem_cons_self ..)) (by simp)
  | a :: l1, [], _, _, h => absurd ((h a).1 (List.mem_cons_self ..)) (by simp)
  | a :: l1, b :: l2, h1, h2, h => by
    have k1 := List.pairwise_cons.1 h1
    have k2 := List.pairwise_cons.1 h2
    have e : a = b := by
      rcases List.mem_cons.1 ((h a).1 (List.mem_cons_self ..)) with e | e
      · exact e
      · rcases List.mem_cons.1 ((h b).2 (List.mem_cons_self ..)) with e' | e'
        · exact e'.symm
        · exact absurd (k2.1 a e) (bef_asym (k1.1 b e'))
    subst e
    congr 1
    refine srt_eq k1.2 k2.2 fun p => ⟨fun hp => ?_, fun hp => ?_⟩
    · rcases List.mem_cons.1 ((h p).1 (List.mem_cons_of_mem _ hp)) with e | e
      · subst e; exact absurd (k1.1 _ hp) (bef_irr _)
      · exact e
    · rcases List.mem_cons.1 ((h p).2 (List.mem_cons_of_mem _ hp)) with e | e
      · subst e; exact absurd (k2.1 _ hp) (bef_irr _)
      · exact e

set_option maxRecDepth 100000 in
theorem offL_srt : (offL 81).Pairwise (fun a b => befB a.1 b.1 = true) := by decide +kernel
theorem off_mem (x : Off) : x ∈ offL 81 := by
  obtain ⟨⟨a, b⟩, ⟨h1, h2⟩, h3, h4⟩ := x
  simp only at h1 h2 h3 h4
  unfold offL
  refine List.mem_map.2 ⟨((b + 4) * 9 + (a + 4)).toNat, List.mem_range.2 (by omega), ?_⟩
  apply Subtype.ext
  simp only [offAt]
  refine Prod.ext ?_ ?_
  · show ((((b + 4) * 9 + (a + 4)).toNat % 9 : Nat) : Int) - 4 = a
    omega
  · show ((((b + 4) * 9 + (a + 4)).toNat / 9 % 9 : Nat) : Int) - 4 = b
    omega
theorem elL_srt (f : Int → Int → Bool) : Srt (elL f) := by
  unfold elL selL Srt
  rw [List.pairwise_map]
  exact offL_srt.filter _
theorem elL_mem (f : Int → Int → Bool) (p : Int × Int) : p ∈ elL f ↔ (((-4 ≤ p.1 ∧ p.1 ≤ 4) ∧ (-4 ≤ p.2 ∧ p.2 ≤ 4)) ∧ f p.1 p.2 = true) := by
  unfold elL selL
  rw [List.mem_map]
  constructor
  · rintro ⟨x, hx, rfl⟩
    exact ⟨x.2, (List.mem_filter.1 hx).2⟩
  · rintro ⟨h, hf⟩
    exact ⟨⟨p, h⟩, List.mem_filter.2 ⟨off_mem _, hf⟩, rfl⟩
theorem okO_iff (p : Int × Int) : okO p = true ↔ ((-4 ≤ p.1 ∧ p.1 ≤ 4) ∧ (-4 ≤ p.2 ∧ p.2 ≤ 4)) := by simp [okO]

theorem getD_of_lt {xs : List (Int × Int)} {i : Nat} (h : i < xs.length) : xs.getD i (0, 0) = xs[i] := by
  rw [List.getD_eq_getElem?_getD, List.getElem?_eq_getElem h]; rfl
theorem srt_of_steps {xs : List (Int × Int)} (h : ∀ i, i < xs.length → stepOk xs i = true) : Srt xs := by
  have key : ∀ j, ∀ i, i < j → (hj : j < xs.length) → befB (xs.getD i (0, 0)) (xs.getD j (0, 0)) = true := by
    intro j
    induction j with
    | zero => intro i hi; omega
    | succ j ih =>
      intro i hi hj
      have hs := h (j + 1) hj
      unfold stepOk at hs
      simp at hs
      by_cases e : i = j
      · subst e; simpa using hs.2
      · exact bef_trans (ih i (by omega) (by omega)) (by simpa using hs.2)
  unfold Srt
  rw [List.pairwise_iff_getElem]
  intro i j hi hj hij
  have := key j i hij hj
  rwa [getD_of_lt hi, getD_of_lt hj] at this
theorem steps_of_srt {xs : List (Int × Int)} (h : Srt xs) (hr : ∀ p ∈ xs, okO p = true) : ∀ i, i < xs.length → stepOk xs i = true := by
  intro i hi
  unfold stepOk
  rw [getD_of_lt hi, hr _ (List.getElem_mem hi), Bool.true_and]
  by_cases e : i = 0
  · simp [e]
  · rw [getD_of_lt (show i - 1 < xs.length by omega)]
    unfold Srt at h
    rw [List.pairwise_iff_getElem] at h
    rw [h (i - 1) i (by omega) hi (by omega), Bool.or_true]

def memB (xs : List (Int × Int)) (x y : Int) : Bool := decide ((x, y) ∈ xs)
/-- how many different ones are among the first k -/
def dC (xs : List (Int × Int)) : Nat → Nat
  | 0 => 0
  | k + 1 => if xs.getD k (0, 0) ∈ xs.take k then dC xs k else dC xs k + 1
theorem dC_le (xs : List (Int × Int)) : ∀ k, dC xs k ≤ k
  | 0 => Nat.le_refl _
  | k + 1 => by have := dC_le xs k; simp only [dC]; split <;> omega
theorem dC_srt {xs : List (Int × Int)} (h : Srt xs) : ∀ k, k ≤ xs.length → dC xs k = k
  | 0, _ => rfl
  | k + 1, hk => by
    have ih := dC_srt h k (by omega)
    simp only [dC]
    rw [if_neg, ih]
    intro hm
    obtain ⟨j, hj, e⟩ := List.mem_take_iff_getElem.1 hm
    unfold Srt at h
    rw [List.pairwise_iff_getElem] at h
    have := h j k (by omega) (by omega) (by omega)
    rw [e, getD_of_lt (by omega)] at this
    exact bef_irr _ this

theorem el_self {xs : List (Int × Int)} (h : ∀ i, i < xs.length → stepOk xs i = true) : elL (memB xs) = xs := by
  refine srt_eq (elL_srt _) (srt_of_steps h) fun p => ?_
  rw [elL_mem]
  constructor
  · rintro ⟨_, h2⟩
    exact of_decide_eq_true h2
  · intro hp
    obtain ⟨i, hi, e⟩ := List.mem_iff_getElem.1 hp
    have hs := h i hi
    unfold stepOk at hs
    rw [getD_of_lt hi, Bool.and_eq_true] at hs
    rw [e] at hs
    exact ⟨(okO_iff p).1 hs.1, decide_eq_true hp⟩

/-- what ValidElement reckons -/
theorem valid_eq (xs : List (Int × Int)) : (decide ((elL (memB xs)).length = dC xs xs.length) && (decide (1 ≤ dC xs xs.length) && decide (dC xs xs.length ≤ 50)) && decide (elL (memB xs) = xs)) = elB xs := by
  by_cases h : ∀ i, i < xs.length → stepOk xs i = true
  · have e := el_self h
    rw [e, dC_srt (srt_of_steps h) _ (Nat.le_refl _), elB_good h]
    simp
  · obtain ⟨i, hi⟩ : ∃ i, ¬ (i < xs.length → stepOk xs i = true) := Classical.not_forall.1 h
    have hlt : i < xs.length := Classical.byContradiction fun k => hi (fun h' => absurd h' k)
    have hst : stepOk xs i = false := by
      cases e : stepOk xs i with
      | false => rfl
      | true => exact absurd (fun _ => e) hi
    rw [elB_bad hlt hst]
    have hne : elL (memB xs) ≠ xs := fun e => h (by
      have hs := elL_srt (memB xs)
      rw [e] at hs
      refine steps_of_srt hs fun p hp => ?_
      rw [← e] at hp
      exact (okO_iff p).2 ((elL_mem _ _).1 hp).1)
    rw [decide_eq_false hne, Bool.and_false]
end Go.Proofs.Ytaopdhncapoefaa
