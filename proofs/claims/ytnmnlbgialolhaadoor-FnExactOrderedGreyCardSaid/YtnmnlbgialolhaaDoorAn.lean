/- Contracts of single functions, and plain lemmas, on which the exact laws of this seat rest; each holds under the conditions that it states. -/
import Derived.Test.YtnmnlbgialolhaaDoorAb
import Derived.Test.YtnmnlbgialolhaaDoorAi
import Derived.Deep.QuietTactic
import Derived.BigQuiet
namespace Go.Proofs.YtnmnlbgialolhaaDoor
set_option linter.unusedVariables false
set_option linter.unusedSimpArgs false
open Go.RowKit

theorem okO_eq (x y : Int) : okO (x, y) = (inB x (-4) 4 && inB y (-4) 4) := by simp [okO, inB]

end Go.Proofs.YtnmnlbgialolhaaDoor

/- Contracts of single functions, and plain lemmas, on which the exact laws of this seat rest; each holds under the conditions that it states. -/
namespace Go.Proofs.YtnmnlbgialolhaaDoor
set_option linter.unusedVariables false
set_option linter.unusedSimpArgs false
open Go.RowKit

theorem eqI_noE {a b : Int} (h : a ≠ b) : (a == b) = false := by simpa using h
theorem sl_form {w : World} {v : Value} {xs : List (Int × Int)} (h : SlS w v xs) : ∃ ao cap, v = .slice ao xs.length cap ∧ (0 < xs.length → ∃ b, ao = some ⟨b, 0, none⟩ ∧ Spots w b xs) := by
  rcases h with ⟨ao, cap, rfl, rfl⟩ | ⟨b, cap, rfl, _, h⟩
  · exact ⟨ao, cap, rfl, fun h => absurd h (by simp)⟩
  · exact ⟨_, cap, rfl, fun _ => ⟨b, rfl, h⟩⟩
theorem list_same {xs ys : List (Int × Int)} (hl : xs.length = ys.length) (h : ∀ j, j < xs.length → xs.getD j (0, 0) = ys.getD j (0, 0)) : xs = ys := by
  apply List.ext_getElem hl
  intro i h1 h2
  have := h i h1
  rwa [getD_of_lt h1, getD_of_lt h2] at this

end Go.Proofs.YtnmnlbgialolhaaDoor

/- Contracts of single functions, and plain lemmas, on which the exact laws of this seat rest; each holds under the conditions that it states. -/
namespace Go.Proofs.YtnmnlbgialolhaaDoor
set_option linter.unusedVariables false
set_option linter.unusedSimpArgs false
open Go.RowKit

theorem elB_long {xs : List (Int × Int)} (h : ¬ xs.length ≤ 50) : elB xs = false := by unfold elB; rw [decide_eq_false h, Bool.and_false, Bool.and_false]
theorem validE_yes {xs : List (Int × Int)} (h : (elL (memB xs)).length = dC xs xs.length ∧ 1 ≤ dC xs xs.length ∧ dC xs xs.length ≤ 50) : elB xs = decide (elL (memB xs) = xs) := by
  rw [← valid_eq, decide_eq_true h.1, decide_eq_true h.2.1, decide_eq_true h.2.2]; simp
theorem validE_no {xs : List (Int × Int)} (h : ¬ ((elL (memB xs)).length = dC xs xs.length ∧ 1 ≤ dC xs xs.length ∧ dC xs xs.length ≤ 50)) : elB xs = false := by
  rw [← valid_eq]
  by_cases h1 : (elL (memB xs)).length = dC xs xs.length
  · by_cases h2 : 1 ≤ dC xs xs.length
    · rw [decide_eq_false (fun h3 => h ⟨h1, h2, h3⟩)]; simp
    · rw [decide_eq_false h2]; simp
  · rw [decide_eq_false h1]; simp

end Go.Proofs.YtnmnlbgialolhaaDoor
