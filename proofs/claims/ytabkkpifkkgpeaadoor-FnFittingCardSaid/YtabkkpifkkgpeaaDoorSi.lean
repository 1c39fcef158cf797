/- Contracts of single functions, and plain lemmas, on which the exact laws of this seat rest; each holds under the conditions that it states. -/
import Derived.Test.YtabkkpifkkgpeaaDoorPb
import Derived.Test.YtabkkpifkkgpeaaDoorSs
import Derived.Test.YtabkkpifkkgpeaaDoorSu
namespace Go.Proofs.YtabkkpifkkgpeaaDoor
set_option linter.unusedVariables false
open Go.RowKit

theorem set_bits {ss : List ByteArray} (V : VP ss) (q p : Nat) (bk : Bool) (hp : p < 16) (y x : Nat) (hy : y < ss.length) (hx : x < (row0 ss).size) :
    blackB (row0 ss).size ss.length (updG (wordsOf ss) q p bk) x y = setF ss q p bk y x := by
  have hh : hasB (row0 ss).size ss.length x y = true := by rw [hasB_insB]; exact in_range hx hy
  have hw := V.w16
  unfold blackB setF updG
  rw [hh, Bool.true_and, Int.toNat_natCast, Int.toNat_natCast]
  by_cases h : y = q
  · subst h
    rw [if_pos rfl, upd_bit _ p x bk hp (by omega), words_at V y x hy hx]
    by_cases h2 : x = p <;> simp [h2]
  · rw [if_neg h, if_neg (fun e => h e.1), words_at V y x hy hx]


end Go.Proofs.YtabkkpifkkgpeaaDoor
