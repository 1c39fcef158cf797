/- Contracts of single functions, and plain lemmas, on which the exact laws of this seat rest; each holds under the conditions that it states. -/
import Derived.Test.YthblhibkbcmbaaaDoorCVR
import Derived.Test.YthblhibkbcmbaaaDoorCX1
namespace Go.Proofs.YthblhibkbcmbaaaDoor
set_option linter.unusedVariables false
set_option linter.unusedSimpArgs false
open Go.RowKit
attribute [local go_sem] Oper.semAt_some

/-! ### the intervals of all boxes of a size -/
def szB (c n : Nat) (a b : Int) (x y : Nat) : List (List Int) := ivL (bxF c n (x : Int) (y : Int) ((x : Int) + a - 1) ((y : Int) + b - 1)) (cvF c n).length
def szS (A : Nat) (g : Nat → Nat → Nat) : Nat → Nat
  | 0 => 0
  | k + 1 => szS A g k + g (k % A) (k / A)
theorem szS_at (A : Nat) (g : Nat → Nat → Nat) (x y : Nat) (hx : x < A) : szS A g (y * A + x + 1) = szS A g (y * A + x) + g x y := by
  show szS A g (y * A + x) + g ((y * A + x) % A) ((y * A + x) / A) = _
  have e1 : (y * A + x) % A = x := by rw [Nat.mul_comm, Nat.mul_add_mod]; exact Nat.mod_eq_of_lt hx
  have e2 : (y * A + x) / A = y := by rw [Nat.mul_comm, Nat.mul_add_div (by omega), Nat.div_eq_of_lt hx, Nat.add_zero]
  rw [e1, e2]
theorem szS_le (A : Nat) {g : Nat → Nat → Nat} (hg : ∀ x y, g x y ≤ 256) : ∀ k, szS A g k ≤ k * 256
  | 0 => Nat.le_refl _
  | k + 1 => by
    have := szS_le A hg k
    have := hg (k % A) (k / A)
    show szS A g k + g (k % A) (k / A) ≤ _
    omega
def szOk (c n a b : Int) : Bool := (inB c 0 3 && inB n 0 4) && (inB a 1 (sd n) && inB b 1 (sd n))
def szT (c n : Nat) (a b : Int) : Nat := szS (2 ^ n - (a - 1).toNat) (fun x y => (szB c n a b x y).length) ((2 ^ n - (b - 1).toNat) * (2 ^ n - (a - 1).toNat))
def szV (c n a b : Int) : Int := if szOk c n a b = true then (szT c.toNat n.toNat a b : Int) else 0
theorem szB_len (c n : Nat) (hn : n ≤ 4) (a b : Int) (x y : Nat) : (szB c n a b x y).length ≤ 256 := by
  have h1 : (cvF c n).length ≤ 256 := by rw [cvF_len]; exact Nat.mul_le_mul (pow_le16 hn) (pow_le16 hn)
  exact Nat.le_trans (ivL_len _ _) h1
theorem sd_pow {n : Nat} (hn : n ≤ 4) : sd (n : Int) = ((2 ^ n : Nat) : Int) := by
  rcases (by omega : n = 0 ∨ n = 1 ∨ n = 2 ∨ n = 3 ∨ n = 4) with rfl | rfl | rfl | rfl | rfl <;> decide +kernel

end Go.Proofs.YthblhibkbcmbaaaDoor

/- Contracts of single functions, and plain lemmas, on which the exact laws of this seat rest; each holds under the conditions that it states. -/
namespace Go.Proofs.YthblhibkbcmbaaaDoor
set_option linter.unusedVariables false
set_option linter.unusedSimpArgs false
open Go.RowKit

/-! ### intervals: plain facts -/
def ivLo (P : List (List Int)) (i : Nat) : Int := (P.getD i []).getD 0 0
def ivHi (P : List (List Int)) (i : Nat) : Int := (P.getD i []).getD 1 0
/-- what the intervals of the first k indices tell -/
structure IvInv (f : Nat → Bool) (k : Nat) (P : List (List Int)) : Prop where
  in_ : ∀ i, i < P.length → 0 ≤ ivLo P i ∧ ivLo P i ≤ ivHi P i ∧ ivHi P i < (k : Int)
  gap : ∀ i j, i < j → j < P.length → ivHi P i + 1 < ivLo P j
  iff : ∀ j : Nat, j < k → (f j = true ↔ ∃ i, i < P.length ∧ ivLo P i ≤ (j : Int) ∧ (j : Int) ≤ ivHi P i)
theorem lo_add (P : List (List Int)) (x : Int) (i : Nat) : ivLo (addP P x) i = (if i = P.length then x else ivLo P i) ∧ ivHi (addP P x) i = (if i = P.length then x else ivHi P i) := by
  unfold ivLo ivHi addP
  rw [List.getD_eq_getElem?_getD, List.getD_eq_getElem?_getD]
  by_cases h : i < P.length
  · rw [List.getElem?_append_left h, if_neg (by omega), if_neg (by omega)]
    exact ⟨rfl, rfl⟩
  · rw [List.getElem?_append_right (by omega)]
    by_cases e : i = P.length
    · subst e
      rw [if_pos rfl, if_pos rfl, Nat.sub_self]
      exact ⟨rfl, rfl⟩
    · rw [if_neg e, if_neg e]
      obtain ⟨d, hd⟩ : ∃ d, i - P.length = d + 1 := ⟨i - P.length - 1, by omega⟩
      have hn : P.getD i [] = [] := by rw [List.getD_eq_getElem?_getD, List.getElem?_eq_none (show P.length ≤ i by omega)]; rfl
      rw [hd, hn]
      exact ⟨rfl, rfl⟩
theorem lo_upd (P : List (List Int)) (x : Int) (h0 : 0 < P.length) (i : Nat) : ivLo (updP P x) i = ivLo P i ∧ ivHi (updP P x) i = (if i = P.length - 1 then x else ivHi P i) := by
  unfold ivLo ivHi updP
  rw [List.getD_eq_getElem?_getD (l := P.set _ _), List.getElem?_set]
  by_cases e : P.length - 1 = i
  · rw [if_pos e, if_pos (by omega), if_pos e.symm, ← e]
    exact ⟨rfl, rfl⟩
  · rw [if_neg e, if_neg (fun h => e h.symm), ← List.getD_eq_getElem?_getD]
    exact ⟨rfl, rfl⟩
theorem iv_inv (f : Nat → Bool) : ∀ k, IvInv f k (ivL f k)
  | 0 => ⟨fun i hi => absurd hi (Nat.not_lt_zero i), fun i j _ hj => absurd hj (Nat.not_lt_zero j), fun j hj => absurd hj (Nat.not_lt_zero j)⟩
  | k + 1 => by
    have H := iv_inv f k
    cases hf : f k with
    | false =>
      rw [ivL_no hf]
      refine ⟨fun i hi => ⟨(H.in_ i hi).1, (H.in_ i hi).2.1, by have := (H.in_ i hi).2.2; omega⟩, H.gap, fun j hj => ?_⟩
      by_cases e : j < k
      · exact H.iff j e
      · obtain rfl : j = k := by omega
        rw [hf]
        refine ⟨fun h => (by cases h), fun ⟨i, hi, h1, h2⟩ => ?_⟩
        have := (H.in_ i hi).2.2
        omega
    | true =>
      by_cases hu : 0 < k ∧ f (k - 1) = true
      · rw [ivL_upd hf hu.1 hu.2]
        obtain ⟨i0, hi0, h1, h2⟩ := (H.iff (k - 1) (by omega)).1 hu.2
        have hpos : 0 < (ivL f k).length := by omega
        -- the last one ends at k - 1
        have hlast : i0 = (ivL f k).length - 1 := by
          rcases Nat.lt_or_ge i0 ((ivL f k).length - 1) with h | h
          · have h3 := H.gap i0 ((ivL f k).length - 1) h (by omega)
            have h4 := H.in_ ((ivL f k).length - 1) (by omega)
            omega
          · omega
        have hu1 := fun i => lo_upd (ivL f k) (k : Int) hpos i
        refine ⟨fun i hi => ?_, fun i j hij hj => ?_, fun j hj => ?_⟩
        · rw [updP_len] at hi
          rw [(hu1 i).1, (hu1 i).2]
          have := H.in_ i hi
          split <;> omega
        · rw [updP_len] at hj
          rw [(hu1 i).2, (hu1 j).1, if_neg (by omega)]
          exact H.gap i j hij hj
        · rw [updP_len]
          by_cases e : j < k
          · rw [H.iff j e]
            constructor
            · rintro ⟨i, hi, h3, h4⟩
              refine ⟨i, hi, ?_, ?_⟩
              · rw [(hu1 i).1]; exact h3
              · rw [(hu1 i).2]; split <;> omega
            · rintro ⟨i, hi, h3, h4⟩
              rw [(hu1 i).1] at h3
              rw [(hu1 i).2] at h4
              refine ⟨i, hi, h3, ?_⟩
              by_cases e2 : i = (ivL f k).length - 1
              · rw [e2, ← hlast]; omega
              · rwa [if_neg e2] at h4
          · obtain rfl : j = k := by omega
            rw [hf]
            refine ⟨fun _ => ⟨i0, hi0, ?_, ?_⟩, fun _ => rfl⟩
            · rw [(hu1 i0).1]; omega
            · rw [(hu1 i0).2, if_pos hlast]; exact Int.le_refl _
      · rw [ivL_add hf hu]
        have ha := fun i => lo_add (ivL f k) (k : Int) i
        have hno : ∀ i, i < (ivL f k).length → ivHi (ivL f k) i + 1 < (k : Int) := fun i hi => by
          have h3 := H.in_ i hi
          rcases Int.lt_or_le (ivHi (ivL f k) i + 1) (k : Int) with h | h
          · exact h
          · exfalso
            have hk : 0 < k := by omega
            exact hu ⟨hk, (H.iff (k - 1) (by omega)).2 ⟨i, hi, by omega, by omega⟩⟩
        refine ⟨fun i hi => ?_, fun i j hij hj => ?_, fun j hj => ?_⟩
        · rw [addP_len] at hi
          rw [(ha i).1, (ha i).2]
          by_cases e : i = (ivL f k).length
          · rw [if_pos e, if_pos e]; omega
          · rw [if_neg e, if_neg e]
            have := H.in_ i (by omega)
            omega
        · rw [addP_len] at hj
          rw [(ha i).2, (ha j).1, if_neg (by omega)]
          by_cases e : j = (ivL f k).length
          · rw [if_pos e]; exact hno i (by omega)
          · rw [if_neg e]; exact H.gap i j hij (by omega)
        · rw [addP_len]
          by_cases e : j < k
          · rw [H.iff j e]
            constructor
            · rintro ⟨i, hi, h3, h4⟩
              refine ⟨i, by omega, ?_, ?_⟩
              · rw [(ha i).1, if_neg (by omega)]; exact h3
              · rw [(ha i).2, if_neg (by omega)]; exact h4
            · rintro ⟨i, hi, h3, h4⟩
              rw [(ha i).1] at h3
              rw [(ha i).2] at h4
              by_cases e2 : i = (ivL f k).length
              · rw [if_pos e2] at h3; omega
              · rw [if_neg e2] at h3 h4
                exact ⟨i, by omega, h3, h4⟩
          · obtain rfl : j = k := by omega
            rw [hf]
            refine ⟨fun _ => ⟨(ivL f j).length, by omega, ?_, ?_⟩, fun _ => rfl⟩
            · rw [(ha _).1, if_pos rfl]; exact Int.le_refl _
            · rw [(ha _).2, if_pos rfl]; exact Int.le_refl _
/-- the first interval that does not end ahead of an index tells whether it is in one -/
theorem iv_at {f : Nat → Bool} {N n κ : Nat} {P : List (List Int)} (H : IvInv f N P) (hn : n < N) (h1 : ∀ i, i < κ → ivHi P i < (n : Int)) (h2 : κ < P.length → (n : Int) ≤ ivHi P κ) : f n = (decide (κ < P.length) && decide (ivLo P κ ≤ (n : Int))) := by
  rw [Bool.eq_iff_iff, H.iff n hn, Bool.and_eq_true, decide_eq_true_eq, decide_eq_true_eq]
  constructor
  · rintro ⟨i, hi, h3, h4⟩
    have hik : κ ≤ i := by
      rcases Nat.lt_or_ge i κ with h | h
      · have := h1 i h; omega
      · exact h
    refine ⟨by omega, ?_⟩
    rcases Nat.eq_or_lt_of_le hik with e | e
    · rw [e]; exact h3
    · have h5 := H.gap κ i e hi
      have h6 := H.in_ κ (by omega)
      omega
  · rintro ⟨h3, h4⟩
    exact ⟨κ, h3, h4, h2 h3⟩
/-- one index alone -/
theorem iv_single {f : Nat → Bool} {i0 K : Nat} (hf : ∀ j, j < K → f j = decide (j = i0)) : ∀ k, k ≤ K → ivL f k = if i0 < k then [[(i0 : Int), (i0 : Int)]] else []
  | 0, _ => rfl
  | k + 1, hk => by
    have ih := iv_single hf k (by omega)
    by_cases e : k = i0
    · subst e
      rw [ivL_add (by rw [hf k (by omega)]; simp) (fun h => by rw [hf (k - 1) (by omega)] at h; simp at h; omega), ih, if_neg (by omega), if_pos (by omega)]
      rfl
    · rw [ivL_no (by rw [hf k (by omega)]; simp [e]), ih]
      by_cases h : i0 < k
      · rw [if_pos h, if_pos (by omega)]
      · rw [if_neg h, if_neg (by omega)]
/-- what is one to one among so many numbers meets each -/
theorem surj_of_inj : ∀ (N : Nat) (g : Nat → Nat), (∀ i, i < N → g i < N) → (∀ i j, i < N → j < N → g i = g j → i = j) → ∀ m, m < N → ∃ i, i < N ∧ g i = m
  | 0, _, _, _, m, hm => absurd hm (Nat.not_lt_zero m)
  | N + 1, g, hr, hi, m, hm => by
    have ha := hr N (by omega)
    have ih := surj_of_inj N (fun i => if g i = N then g N else g i) (fun i h => by
      show (if g i = N then g N else g i) < N
      have h1 := hr i (by omega)
      by_cases e : g i = N
      · rw [if_pos e]
        rcases Nat.eq_or_lt_of_le (Nat.le_of_lt_succ ha) with e2 | e2
        · exact absurd (hi i N (by omega) (by omega) (e.trans e2.symm)) (by omega)
        · exact e2
      · rw [if_neg e]; omega) (fun i j h1 h2 e => by
      have e : (if g i = N then g N else g i) = (if g j = N then g N else g j) := e
      by_cases e1 : g i = N
      · by_cases e2 : g j = N
        · exact hi i j (by omega) (by omega) (e1.trans e2.symm)
        · rw [if_pos e1, if_neg e2] at e
          exact absurd (hi N j (by omega) (by omega) e) (by omega)
      · by_cases e2 : g j = N
        · rw [if_neg e1, if_pos e2] at e
          exact absurd (hi i N (by omega) (by omega) e) (by omega)
        · rw [if_neg e1, if_neg e2] at e
          exact hi i j (by omega) (by omega) e)
    by_cases e : m = g N
    · exact ⟨N, by omega, e.symm⟩
    · by_cases e2 : m = N
      · obtain ⟨i, h1, h2⟩ := ih (g N) (by omega)
        have h2 : (if g i = N then g N else g i) = g N := h2
        by_cases e3 : g i = N
        · exact ⟨i, by omega, e3.trans e2.symm⟩
        · rw [if_neg e3] at h2
          exact absurd (hi i N (by omega) (by omega) h2) (by omega)
      · obtain ⟨i, h1, h2⟩ := ih m (by omega)
        have h2 : (if g i = N then g N else g i) = m := h2
        by_cases e3 : g i = N
        · rw [if_pos e3] at h2
          exact absurd h2.symm e
        · rw [if_neg e3] at h2
          exact ⟨i, by omega, h2⟩
/-- each spot is visited -/
theorem cv_surj (c n : Nat) (hc : c < 4) (hn : n < 5) (x y : Nat) (hx : x < 2 ^ n) (hy : y < 2 ^ n) : ∃ i, i < 2 ^ n * 2 ^ n ∧ ∀ j, j < 2 ^ n * 2 ^ n → ((cvF c n).getD j (0, 0) = ((x : Int), (y : Int)) ↔ j = i) := by
  have hs := fun i hi => cv_spot c n hc hn i hi
  obtain ⟨p, hp⟩ : ∃ p, 2 ^ n = p := ⟨_, rfl⟩
  have hpI : (2 : Int) ^ n = (p : Int) := by rw [← hp]; exact (Int.natCast_pow 2 _).symm
  rw [hpI, hp] at hs
  rw [hp] at hx hy ⊢
  obtain ⟨L, hL⟩ : ∃ L, cvF c n = L := ⟨_, rfl⟩
  rw [hL] at hs ⊢
  have hlt : ∀ a b : Nat, a < p → b < p → b * p + a < p * p := fun a b ha hb => by
    have h3 : (b + 1) * p ≤ p * p := Nat.mul_le_mul_right _ hb
    rw [Nat.add_mul, Nat.one_mul] at h3
    omega
  have hdm : ∀ a b : Nat, a < p → (b * p + a) % p = a ∧ (b * p + a) / p = b := fun a b ha =>
    ⟨by rw [Nat.mul_comm, Nat.mul_add_mod, Nat.mod_eq_of_lt ha], by rw [Nat.mul_comm, Nat.mul_add_div (by omega), Nat.div_eq_of_lt ha, Nat.add_zero]⟩
  obtain ⟨i, hi, he⟩ := surj_of_inj (p * p) (fun i => (L.getD i (0, 0)).2.toNat * p + (L.getD i (0, 0)).1.toNat) (fun i hi => by
    obtain ⟨q1, q2, q3, q4, q5⟩ := hs i hi
    exact hlt _ _ (by omega) (by omega)) (fun i j hi hj e => by
    obtain ⟨q1, q2, q3, q4, q5⟩ := hs i hi
    obtain ⟨r1, r2, r3, r4, r5⟩ := hs j hj
    have e : (L.getD i (0, 0)).2.toNat * p + (L.getD i (0, 0)).1.toNat = (L.getD j (0, 0)).2.toNat * p + (L.getD j (0, 0)).1.toNat := e
    have m1 := hdm (L.getD i (0, 0)).1.toNat (L.getD i (0, 0)).2.toNat (by omega)
    have m2 := hdm (L.getD j (0, 0)).1.toNat (L.getD j (0, 0)).2.toNat (by omega)
    rw [e] at m1
    have h1 : (L.getD i (0, 0)).1.toNat = (L.getD j (0, 0)).1.toNat := m1.1.symm.trans m2.1
    have h2 : (L.getD i (0, 0)).2.toNat = (L.getD j (0, 0)).2.toNat := m1.2.symm.trans m2.2
    rw [h1, h2, r5] at q5
    omega) (y * p + x) (hlt x y hx hy)
  have he : (L.getD i (0, 0)).2.toNat * p + (L.getD i (0, 0)).1.toNat = y * p + x := he
  obtain ⟨q1, q2, q3, q4, q5⟩ := hs i hi
  have m1 := hdm (L.getD i (0, 0)).1.toNat (L.getD i (0, 0)).2.toNat (by omega)
  have m2 := hdm x y hx
  rw [he] at m1
  have h1 : (L.getD i (0, 0)).1 = (x : Int) := by have := m1.1.symm.trans m2.1; omega
  have h2 : (L.getD i (0, 0)).2 = (y : Int) := by have := m1.2.symm.trans m2.2; omega
  refine ⟨i, hi, fun j hj => ⟨fun e => ?_, fun e => ?_⟩⟩
  · obtain ⟨r1, r2, r3, r4, r5⟩ := hs j hj
    rw [e] at r5
    rw [h1, h2] at q5
    have : ((j : Nat) : Int) = (i : Int) := r5.symm.trans q5
    omega
  · subst e
    exact Prod.ext h1 h2
/-- all indices -/
theorem iv_whole {f : Nat → Bool} : ∀ k, (∀ j, j < k → f j = true) → ivL f k = if 0 < k then [[0, (k : Int) - 1]] else []
  | 0, _ => rfl
  | 1, hf => by
    rw [ivL_add (hf 0 (by omega)) (by omega)]
    rfl
  | k + 2, hf => by
    have ih := iv_whole (k + 1) (fun j hj => hf j (by omega))
    rw [ivL_upd (hf (k + 1) (by omega)) (by omega) (hf k (by omega)), ih, if_pos (by omega), if_pos (by omega)]
    show [[(0 : Int), ((k + 1 : Nat) : Int)]] = [[0, ((k + 2 : Nat) : Int) - 1]]
    congr 2
    congr 1
    omega
end Go.Proofs.YthblhibkbcmbaaaDoor
