/- Contracts of single functions, and plain lemmas, on which the exact laws of this seat rest; each holds under the conditions that it states. -/
import Derived.Test.YtenbhnfajjknkaaDoorL14
namespace Go.Proofs.YtenbhnfajjknkaaDoor
set_option linter.unusedVariables false
open Go.RowKit

/-- a row of one's own has room for what it holds -/
theorem own_cap {W : World} {base s n : Nat} {e : TypeId} {v : Value} {xs : List Value} (h : W.ownsRow base e s v n xs) : ∀ ao m c, v = .slice ao m c → m ≤ c := by
  intro ao m c hv
  rcases h.2 with ⟨rfl, rfl⟩ | ⟨g, cap, cur, rfl, _, _, hc, _⟩
  · cases hv; exact Nat.le_refl _
  · cases hv; exact hc
theorem pxP_len (k : Nat) (ss : List ByteArray) (xs : List (Int × Int)) : (pxP k ss xs).length ≤ 16 := by
  cases h : pxOk ss xs with
  | false => rw [pxP_no h]; simp
  | true =>
    rw [pxP_yes h]
    unfold pxOk at h
    rw [Bool.and_eq_true] at h
    have V := vp_of h.1
    unfold mkPic
    simpa using V.n16
/-- both sides say the same of a picture and an element -/
theorem both_Dilate (ss : List ByteArray) (xs : List (Int × Int)) (hN : ss.length ≤ maxLen) (hz : ∀ s ∈ ss, s.size ≤ maxLen) (hM : xs.length ≤ 1048576) (hwf : ∀ p ∈ xs, (Lit.int .i64 p.1).wf = true ∧ (Lit.int .i64 p.2).wf = true) : ∃ (P : List ByteArray) (ok : Bool), P.length ≤ 16 ∧
    (∀ u v W, Sl W u ss → SlS W v xs → Calls Tryd.prog 13 #[.agg #[u], .agg #[v]] W (SaysPic P ok W)) ∧
    (∀ u v W, Sl W u ss → SlS W v xs → (∀ ao n c, v = .slice ao n c → n ≤ c) → ErrLen W → Calls Tryd.prog 16 #[.agg #[u], .agg #[v]] W (SaysPic P ok W)) :=
  ⟨pxP 0 ss xs, pxOk ss xs, pxP_len _ _ _, fun u v W hu hv => spec_Dilate u v ss xs W hN hz hu hM hv, fun u v W hu hv hc he => impl_Dilate u v ss xs W hN hz hu hM hwf hv hc he⟩
/-- both sides say the same of a picture and an element -/
theorem both_Erode (ss : List ByteArray) (xs : List (Int × Int)) (hN : ss.length ≤ maxLen) (hz : ∀ s ∈ ss, s.size ≤ maxLen) (hM : xs.length ≤ 1048576) (hwf : ∀ p ∈ xs, (Lit.int .i64 p.1).wf = true ∧ (Lit.int .i64 p.2).wf = true) : ∃ (P : List ByteArray) (ok : Bool), P.length ≤ 16 ∧
    (∀ u v W, Sl W u ss → SlS W v xs → Calls Tryd.prog 22 #[.agg #[u], .agg #[v]] W (SaysPic P ok W)) ∧
    (∀ u v W, Sl W u ss → SlS W v xs → (∀ ao n c, v = .slice ao n c → n ≤ c) → ErrLen W → Calls Tryd.prog 23 #[.agg #[u], .agg #[v]] W (SaysPic P ok W)) :=
  ⟨pxP 1 ss xs, pxOk ss xs, pxP_len _ _ _, fun u v W hu hv => spec_Erode u v ss xs W hN hz hu hM hv, fun u v W hu hv hc he => impl_Erode u v ss xs W hN hz hu hM hwf hv hc he⟩
/-- both sides say the same of a picture and an element -/
theorem both_Open (ss : List ByteArray) (xs : List (Int × Int)) (hN : ss.length ≤ maxLen) (hz : ∀ s ∈ ss, s.size ≤ maxLen) (hM : xs.length ≤ 1048576) (hwf : ∀ p ∈ xs, (Lit.int .i64 p.1).wf = true ∧ (Lit.int .i64 p.2).wf = true) : ∃ (P : List ByteArray) (ok : Bool), P.length ≤ 16 ∧
    (∀ u v W, Sl W u ss → SlS W v xs → Calls Tryd.prog 24 #[.agg #[u], .agg #[v]] W (SaysPic P ok W)) ∧
    (∀ u v W, Sl W u ss → SlS W v xs → (∀ ao n c, v = .slice ao n c → n ≤ c) → ErrLen W → Calls Tryd.prog 25 #[.agg #[u], .agg #[v]] W (SaysPic P ok W)) :=
  ⟨pxP 2 ss xs, pxOk ss xs, pxP_len _ _ _, fun u v W hu hv => spec_Open u v ss xs W hN hz hu hM hv, fun u v W hu hv hc he => impl_Open u v ss xs W hN hz hu hM hwf hv hc he⟩
/-- both sides say the same of a picture and an element -/
theorem both_Close (ss : List ByteArray) (xs : List (Int × Int)) (hN : ss.length ≤ maxLen) (hz : ∀ s ∈ ss, s.size ≤ maxLen) (hM : xs.length ≤ 1048576) (hwf : ∀ p ∈ xs, (Lit.int .i64 p.1).wf = true ∧ (Lit.int .i64 p.2).wf = true) : ∃ (P : List ByteArray) (ok : Bool), P.length ≤ 16 ∧
    (∀ u v W, Sl W u ss → SlS W v xs → Calls Tryd.prog 26 #[.agg #[u], .agg #[v]] W (SaysPic P ok W)) ∧
    (∀ u v W, Sl W u ss → SlS W v xs → (∀ ao n c, v = .slice ao n c → n ≤ c) → ErrLen W → Calls Tryd.prog 27 #[.agg #[u], .agg #[v]] W (SaysPic P ok W)) :=
  ⟨pxP 3 ss xs, pxOk ss xs, pxP_len _ _ _, fun u v W hu hv => spec_Close u v ss xs W hN hz hu hM hv, fun u v W hu hv hc he => impl_Close u v ss xs W hN hz hu hM hwf hv hc he⟩
end Go.Proofs.YtenbhnfajjknkaaDoor
