/- Contracts of single functions, and plain lemmas, on which the exact laws of this seat rest; each holds under the conditions that it states. -/
import Derived.Test.YtakaglbbcaplhaaDoorA1
namespace Go.Proofs.YtakaglbbcaplhaaDoor
set_option linter.unusedVariables false
set_option linter.unusedSimpArgs false
open Go.RowKit Go.Shelf
attribute [local go_sem] Oper.semAt_some

/-- a block of two cells that is a variable of the loop's -/
def Two (W : World) (B : Nat) (x : Off) : Prop := W.heap[B]? = some (.cells #[.int .i64 x.1.1, .int .i64 x.1.2] 31 (0, 0))
theorem Two.lt {W : World} {B : Nat} {x : Off} (h : Two W B x) : B < W.heap.size := (Array.getElem?_eq_some_iff.1 h).1
theorem Two.c0 {W : World} {B : Nat} {x : Off} (h : Two W B x) : W.cell? ⟨B, 0, none⟩ = some (.int .i64 x.1.1) := by rw [Joins.cell_of_block h 0]; rfl
theorem Two.c1 {W : World} {B : Nat} {x : Off} (h : Two W B x) : W.cell? ⟨B, 1, none⟩ = some (.int .i64 x.1.2) := by rw [Joins.cell_of_block h 1]; rfl
theorem Two.below {W W' : World} {B : Nat} {x : Off} (h : Two W B x) (hb : Below W.heap.size W W') : Two W' B x := (hb.block B h.lt).trans h
theorem Two.own {β : Type} (B : Nat) (x : Off) : Own (fun (_ : β) W => Two W B x) := fun s X Y row hs hg hrow =>
  (hg.block B hs.lt (fun e' => by obtain ⟨o, ho, hc⟩ := hrow B e'.symm; rw [show X.heap[B]? = _ from hs] at ho; cases ho; cases hc)).trans hs
theorem Boxed.below' {W W' : World} {B : Nat} {t : TypeId} {v : Value} (h : Boxed W B t v) (hb : Below W.heap.size W W') : Boxed W' B t v := (hb.block B h.lt).trans h
theorem keeps_below {W W' : World} (B : Nat) (hb : Below W.heap.size W W') : KeepsFrom B W W' := ⟨hb.size, fun k o _ hk _ => (hb.block k (Array.getElem?_eq_some_iff.1 hk).1).trans hk⟩

/-- an element handed back -/
def SaysEl (xs : List (Int × Int)) (w : World) (e : Ending) (w' : World) : Prop :=
  ∃ ao n cap, e = .returned (.agg #[.slice ao n cap]) ∧ OwnS w' w.heap.size (.slice ao n cap) xs ∧ Below w.heap.size w w'
theorem infoEl : (Tryd.prog.info? 156).map (·.size) = some 1 := by kernel_rfl
end Go.Proofs.YtakaglbbcaplhaaDoor
