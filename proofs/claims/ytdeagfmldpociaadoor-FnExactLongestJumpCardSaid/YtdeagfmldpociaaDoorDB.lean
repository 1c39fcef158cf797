/- Contracts of single functions, and plain lemmas, on which the exact laws of this seat rest; each holds under the conditions that it states. -/
import Derived.Test.YtdeagfmldpociaaDoorDA
namespace Go.Proofs.YtdeagfmldpociaaDoor
set_option linter.unusedVariables false
set_option linter.unusedSimpArgs false
open Go.RowKit
attribute [local go_sem] Oper.semAt_some

/-! ### the least by a comparison -/
def cmpI (a b : Int) : Int := if a < b then -1 else if b < a then 1 else 0
theorem isNaN64 (a : Int) (w : World) : Calls Tryd.prog 136 #[.int .i64 a] w fun e w' => e = .returned (.bool false) ∧ w = w' := by
  go_enter Tryd.func136, Tryd.ntmps136
  go_wp2
  go_ret
  exact ⟨ret_bool (by simp), rfl⟩
def mnS (d : Int × Int → Int) (m q : Int × Int) : Int × Int := if d q < d m then q else m
def mnL (d : Int × Int → Int) : List (Int × Int) → Int × Int
  | [] => (0, 0)
  | q :: L => L.foldl (mnS d) q
theorem mnL_snoc (d : Int × Int → Int) (L : List (Int × Int)) (q : Int × Int) (h : L ≠ []) : mnL d (L ++ [q]) = mnS d (mnL d L) q := by
  cases L with
  | nil => exact absurd rfl h
  | cons a L => simp [mnL]
theorem mnL_take (d : Int × Int → Int) (L : List (Int × Int)) (i : Nat) (h0 : 1 ≤ i) (hi : i < L.length) : mnL d (L.take (i + 1)) = mnS d (mnL d (L.take i)) (L.getD i (0, 0)) := by
  have e : L.take (i + 1) = L.take i ++ [L.getD i (0, 0)] := by
    rw [List.take_add_one, List.getD_eq_getElem?_getD, List.getElem?_eq_getElem hi]
    rfl
  rw [e, mnL_snoc]
  intro hn
  have := congrArg List.length hn
  rw [List.length_take, List.length_nil] at this
  omega
theorem mnL_one (d : Int × Int → Int) (L : List (Int × Int)) (h : 0 < L.length) : mnL d (L.take 1) = L.getD 0 (0, 0) := by
  cases L with
  | nil => simp at h
  | cons a L => rfl
theorem nrL_mnL (k x y : Int) (hd : ∀ q : Int × Int, 0 ≤ farI k x y q.1 q.2) : ∀ L : List (Int × Int), L ≠ [] → nrL k x y L = (mnL (fun q => farI k x y q.1 q.2) L, farI k x y (mnL (fun q => farI k x y q.1 q.2) L).1 (mnL (fun q => farI k x y q.1 q.2) L).2) := by
  intro L h
  cases L with
  | nil => exact absurd rfl h
  | cons a L =>
    have : ∀ (L : List (Int × Int)) (m : Int × Int), L.foldl (nrS k x y) (m, farI k x y m.1 m.2) = (L.foldl (mnS (fun q => farI k x y q.1 q.2)) m, farI k x y (L.foldl (mnS (fun q => farI k x y q.1 q.2)) m).1 (L.foldl (mnS (fun q => farI k x y q.1 q.2)) m).2) := by
      intro L
      induction L with
      | nil => intro m; rfl
      | cons q L ih =>
        intro m
        rw [List.foldl_cons, List.foldl_cons]
        have h0 := hd m
        have e : nrS k x y (m, farI k x y m.1 m.2) q = (mnS (fun q => farI k x y q.1 q.2) m q, farI k x y (mnS (fun q => farI k x y q.1 q.2) m q).1 (mnS (fun q => farI k x y q.1 q.2) m q).2) := by
          unfold nrS mnS
          by_cases hc : farI k x y q.1 q.2 < farI k x y m.1 m.2
          · rw [if_pos (Or.inr hc), if_pos hc]
          · rw [if_neg (by intro h; rcases h with h | h; exact absurd h (by omega); exact hc h), if_neg hc]
        rw [e, ih]
    have e0 : nrL k x y (a :: L) = L.foldl (nrS k x y) (a, farI k x y a.1 a.2) := by
      unfold nrL
      rw [List.foldl_cons]
      rfl
    rw [e0, this]
    rfl
theorem mnL_small (d : Int × Int → Int) (L : List (Int × Int)) (hL : SmallL L) : Small (mnL d L).1 ∧ Small (mnL d L).2 := by
  cases L with
  | nil => show Small 0 ∧ Small 0; unfold Small; decide
  | cons a L =>
    have : ∀ (L : List (Int × Int)) (m : Int × Int), SmallL L → (Small m.1 ∧ Small m.2) → (Small (L.foldl (mnS d) m).1 ∧ Small (L.foldl (mnS d) m).2) := by
      intro L
      induction L with
      | nil => intro m _ h; exact h
      | cons q L ih =>
        intro m hL h
        rw [List.foldl_cons]
        refine ih _ (fun p hp => hL p (by simp [hp])) ?_
        unfold mnS
        split
        · exact hL q (by simp)
        · exact h
    exact this L a (fun p hp => hL p (by simp [hp])) (hL a (by simp))
theorem farI_nonneg (k ax ay bx b_y : Int) : 0 ≤ farI k ax ay bx b_y := by
  have h1 : 0 ≤ absI (ax - bx) := by unfold absI; omega
  have h2 : 0 ≤ absI (ay - b_y) := by unfold absI; omega
  have h3 := Int.mul_nonneg h1 h1
  have h4 := Int.mul_nonneg h2 h2
  unfold farI
  split
  · omega
  · split <;> omega

end Go.Proofs.YtdeagfmldpociaaDoor
