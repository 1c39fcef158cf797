/- Contracts of single functions, and plain lemmas, on which the exact laws of this seat rest; each holds under the conditions that it states. -/
import Derived.Test.YtmfaonddhmhjeaaDoorGe
import Derived.Test.YtmfaonddhmhjeaaDoorGf
import Derived.Test.YtmfaonddhmhjeaaDoorGg
import Derived.Test.YtmfaonddhmhjeaaDoorGh
namespace Go.Proofs.YtmfaonddhmhjeaaDoor
set_option linter.unusedVariables false
set_option linter.unusedSimpArgs false
open Go.RowKit

theorem blank_some (a b : Int) : ∃ pok : Bool, (pok = true ↔ ((1 ≤ a ∧ a ≤ 16) ∧ (1 ≤ b ∧ b ≤ 16))) ∧ ∃ M2 : Array Value, M2.size = 18 ∧ M2.all (·.oneCell') = true ∧ ∀ W, Calls Tryd.prog 37 #[.int .i64 a, .int .i64 b] W (fun e w' => e = .returned (.tuple #[.agg M2, .bool pok]) ∧ Below W.heap.size W w') := by
  by_cases h : (1 ≤ a ∧ a ≤ 16) ∧ (1 ≤ b ∧ b ≤ 16)
  · exact ⟨true, by simp [h], mcells a b (fun _ => 0), mcells_size _ _ _, mcells_one _ _ _, fun W => blankMatrix_yes a b W h.1 h.2⟩
  · exact ⟨false, by simp [h], mcells 0 0 (fun _ => 0), mcells_size _ _ _, mcells_one _ _ _, fun W => blankMatrix_no a b W h⟩

theorem impl_Crop_no (v : Value) (ss : List ByteArray) (x y wd hh : Int) (w : World) (hN : ss.length ≤ maxLen) (hz : ∀ s ∈ ss, s.size ≤ maxLen) (hv : Sl w v ss) (he : ErrLen w) (hno : cropOk ss x y wd hh = false) :
    Calls Tryd.prog 20 #[.agg #[v], .agg #[.int .i64 x, .int .i64 y], .int .i64 wd, .int .i64 hh] w (SaysPic [] false w) := by
  obtain ⟨pok, hpok, hB⟩ := blank_some wd hh
  cases hok : validB ss with
  | false => exact impl_Crop_n1 v ss x y wd hh w hN hz hv he pok hok hB
  | true =>
    cases hp : pok with
    | false => exact impl_Crop_n2 v ss x y wd hh w hN hz hv he pok hok hp hB
    | true =>
      have hside := hpok.1 hp
      cases hin : hasB (row0 ss).size ss.length x y with
      | false => exact impl_Crop_n3 v ss x y wd hh w hN hz hv he pok hok hp hin hB
      | true =>
        refine impl_Crop_n4 v ss x y wd hh w hN hz hv he pok hok hp hside hin ?_ hB
        cases hin2 : hasB (row0 ss).size ss.length (x + wd - 1) (y + hh - 1) with
        | false => rfl
        | true =>
          unfold cropOk at hno
          rw [hok, ← hasB_insB, hin] at hno
          unfold hasB at hin2
          simp only [Bool.and_eq_true, decide_eq_true_eq] at hin2
          rw [inB_yes (by omega) (by omega), inB_yes (by omega) (by omega)] at hno
          exact absurd hno (by decide)

/-- what both say -/
theorem both_Crop (ss : List ByteArray) (x y wd hh : Int) (hN : ss.length ≤ maxLen) (hz : ∀ s ∈ ss, s.size ≤ maxLen) : ∃ (P : List ByteArray) (ok : Bool), P.length ≤ 16 ∧
    (∀ u W, Sl W u ss → Calls Tryd.prog 17 #[.agg #[u], .agg #[.int .i64 x, .int .i64 y], .int .i64 wd, .int .i64 hh] W (SaysPic P ok W)) ∧
    (∀ u W, Sl W u ss → ErrLen W → Calls Tryd.prog 20 #[.agg #[u], .agg #[.int .i64 x, .int .i64 y], .int .i64 wd, .int .i64 hh] W (SaysPic P ok W)) := by
  cases hc : cropOk ss x y wd hh with
  | false => exact ⟨[], false, by simp, fun u W hu => spec_Crop_no u ss x y wd hh W hN hz hu hc, fun u W hu hw => impl_Crop_no u ss x y wd hh W hN hz hu hw hc⟩
  | true =>
    unfold cropOk insB inB at hc
    simp only [Bool.and_eq_true, decide_eq_true_eq] at hc
    obtain ⟨hok, ⟨⟨hx0, hx1⟩, hy0, hy1⟩, ⟨hw1, hw2⟩, hh1, hh2⟩ := hc
    obtain ⟨X, rfl⟩ := Int.eq_ofNat_of_zero_le hx0
    obtain ⟨Y, rfl⟩ := Int.eq_ofNat_of_zero_le hy0
    obtain ⟨WD, rfl⟩ := Int.eq_ofNat_of_zero_le (show 0 ≤ wd by omega)
    obtain ⟨HH, rfl⟩ := Int.eq_ofNat_of_zero_le (show 0 ≤ hh by omega)
    have V := vp_of hok
    have := V.n16
    exact ⟨cropRows ss X Y WD HH, true, by rw [cropRows_len]; omega, fun u W hu => spec_Crop_yes u ss X Y WD HH W hN hz hu hok (by omega) (by omega) (by omega) (by omega), fun u W hu hw => impl_Crop_yes u ss X Y WD HH W hN hz hu hw hok (by omega) (by omega) (by omega) (by omega)⟩
end Go.Proofs.YtmfaonddhmhjeaaDoor
