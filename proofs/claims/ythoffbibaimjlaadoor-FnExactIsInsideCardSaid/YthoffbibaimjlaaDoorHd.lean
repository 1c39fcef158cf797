/- Contracts of single functions, and plain lemmas, on which the exact laws of this seat rest; each holds under the conditions that it states. -/
import Derived.Test.YthoffbibaimjlaaDoorMs
namespace Go.Proofs.YthoffbibaimjlaaDoor
set_option linter.unusedVariables false
open Go.RowKit

/-- the held count -/
def Held (k n : Nat) (w : World) (e : Ending) (w' : World) : Prop := e = .returned (.int .i64 ((k + n : Nat) : Int)) ∧ Below w.heap.size w w'

theorem cell_kept {w w1 : World} {b o : Nat} {v : Value} (hb : Below w.heap.size w w1) (h : w.cell? ⟨b, o, none⟩ = some v) : w1.cell? ⟨b, o, none⟩ = some v := (hb.cell (p := ⟨b, o, none⟩) (blk_lt h)).trans h

theorem markPicture_any (v : Value) (ss : List ByteArray) (base k : Nat) (w : World) (h1 : 1 ≤ k) (h2 : k + ss.length ≤ 9000000) (hv : OwnP w base v ss) :
    Calls Tryd.prog 13 #[.agg #[v], .int .i64 k] w (Marked w base v k ss.length) := by
  have hsl : v.ownBlock = none ∨ ∃ g, v.ownBlock = some g ∧ g < w.heap.size := by
    rcases h : v.ownBlock with _ | g
    · exact Or.inl rfl
    · exact Or.inr ⟨g, rfl, (hv.lt g h).2⟩
  obtain ⟨q, hq⟩ : ∃ q, v.ownBlock = q := ⟨_, rfl⟩
  have c := markStringS_any v ss base k (w.alloc (.cells #[v] 27)) h1 h2 (hv.below (Joins.below_alloc1 w _))
  have C := Lib.hid c
  have HQ := Lib.hid hq
  have HV := Lib.hid hv
  rw [hq] at hsl
  have HSL := Lib.hid hsl
  clear c hq hv hsl
  go_enter Tryd.func13, Tryd.ntmps13
  go_wp2_with fail
  refine C.out.mono ?_
  rintro e w' ⟨rfl, hown, hg⟩
  have HO := Lib.hid hown
  have HG := Lib.hid hg
  clear hown hg
  go_wp2_with fail
  go_ret
  refine ⟨rfl, HO.out, ?_⟩
  have hg := HG.out
  refine ⟨hg.os, hg.tape, hg.output, Nat.le_trans (by simp) hg.size, fun j hj hr => ?_⟩
  rw [hg.block j (by simp; omega) hr]
  exact Below.heap_alloc _ _ _ hj

end Go.Proofs.YthoffbibaimjlaaDoor
