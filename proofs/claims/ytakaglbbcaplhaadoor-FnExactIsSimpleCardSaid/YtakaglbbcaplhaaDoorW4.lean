/- Contracts of single functions, and plain lemmas, on which the exact laws of this seat rest; each holds under the conditions that it states. -/
import Derived.Test.YtakaglbbcaplhaaDoorW3
namespace Go.Proofs.YtakaglbbcaplhaaDoor
set_option linter.unusedVariables false
set_option linter.unusedSimpArgs false
open Go.RowKit

/-- a picture of what is reached -/
def ReachPic (p : Int → Int → Bool) (S xs : List (Int × Int)) (a b : Nat) (w : World) (e : Ending) (w' : World) : Prop :=
  ∃ bs : List Bool, bs.length = a * b ∧ (∀ x y : Nat, x < a → y < b → (bs.getD (y * a + x) false = true ↔ Reach p S xs ((x : Int), (y : Int)))) ∧ TookPic w (mkPic a b (fun y x => bs.getD (y * a + x) false)) e w'

/-- the row of steps, apart from the queue and from the marks -/
structure StepsAt (wr : World) (sg sn scap gl : Nat) (S : List (Int × Int)) (qv : Value) : Prop where
  own : OwnS wr 0 (.slice (some ⟨sg, 0, none⟩) sn scap) S
  ne : ∀ k, qv.ownBlock = some k → k ≠ sg
  gne : sg ≠ gl
section
variable {wr wr' : World} {sg sn scap gl : Nat} {S : List (Int × Int)} {qv qv' : Value}
theorem StepsAt.below (h : StepsAt wr sg sn scap gl S qv) (hb : Below wr.heap.size wr wr') : StepsAt wr' sg sn scap gl S qv := ⟨own_below h.own hb, h.ne, h.gne⟩
theorem StepsAt.queued (h : StepsAt wr sg sn scap gl S qv) (o : Obj) (hg : (wr.alloc o).grownBy wr' qv.ownBlock) (hq : qv'.ownBlock = qv.ownBlock ∨ qv'.ownBlock = some (wr.alloc o).heap.size) : StepsAt wr' sg sn scap gl S qv' := by
  have hlt := (h.own.lt sg rfl).2
  refine ⟨World.ownsRow.kept (World.ownsRow.alloc h.own o) hg ?_, fun k hk => ?_, h.gne⟩
  · right
    intro e
    exact h.ne sg e.symm rfl
  · rcases hq with e | e
    · exact h.ne k (by rw [← e]; exact hk)
    · rw [e] at hk
      have e1 := Option.some.inj hk
      rw [World.size_alloc] at e1
      omega
end

end Go.Proofs.YtakaglbbcaplhaaDoor
