/- Contracts of single functions, and plain lemmas, on which the exact laws of this seat rest; each holds under the conditions that it states. -/
import Derived.Test.YtmbkmkpclfgppaaDoorZs
import Derived.Test.YtmbkmkpclfgppaaDoorMo
import Derived.Test.YtmbkmkpclfgppaaDoorBk
namespace Go.Proofs.YtmbkmkpclfgppaaDoor
set_option linter.unusedVariables false
set_option linter.unusedSimpArgs false
open Go.RowKit

theorem piece_sizeP {s : ByteArray} (hs : s.size ≤ 1048576) : (∀ p ∈ piecesP s, p.size ≤ 1048576) ∧ (piecesP s).length ≤ 1048577 := by
  have key : ∀ (l acc : List UInt8), (∀ q ∈ cutAP acc l, q.length ≤ acc.length + l.length) ∧ (cutAP acc l).length ≤ l.length + 1 := by
    intro l
    induction l with
    | nil => intro acc; rw [cutAP]; simp
    | cons c r ih =>
      intro acc
      rw [cutAP]
      split
      · have h1 := ih []
        refine ⟨fun q hq => ?_, by simp; exact h1.2⟩
        rcases List.mem_cons.1 hq with rfl | hq
        · simp
        · have := h1.1 q hq; simp at this ⊢; omega
      · have h1 := ih (acc ++ [c])
        refine ⟨fun q hq => ?_, by have := h1.2; simp; omega⟩
        have := h1.1 q hq; simp at this ⊢; omega
  have hk := key (toLP s) []
  refine ⟨fun p hp => ?_, ?_⟩
  · unfold piecesP at hp
    obtain ⟨l, hl, rfl⟩ := List.mem_map.1 hp
    have := hk.1 l hl
    rw [toL_lenP] at this
    show l.toArray.size ≤ _
    simp at this ⊢; omega
  · have := hk.2
    rw [toL_lenP] at this
    unfold piecesP
    rw [List.length_map]; omega
end Go.Proofs.YtmbkmkpclfgppaaDoor
