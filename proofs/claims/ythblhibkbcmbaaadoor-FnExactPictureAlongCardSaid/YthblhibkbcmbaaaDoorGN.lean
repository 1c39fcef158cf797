/- Contracts of single functions, and plain lemmas, on which the exact laws of this seat rest; each holds under the conditions that it states. -/
import Derived.Test.YthblhibkbcmbaaaDoorGP
import Derived.Test.YthblhibkbcmbaaaDoorRJ
import Derived.Test.YthblhibkbcmbaaaDoorS5
namespace Go.Proofs.YthblhibkbcmbaaaDoor
set_option linter.unusedVariables false
set_option linter.unusedSimpArgs false
open Go.RowKit Go.Shelf
attribute [local go_sem] Oper.semAt_some

theorem BlkG.own {β : Type} (g : Nat) (C : β → Array Value) (t : TypeId) : Own (fun (x : β) W => Blk W g (C x) t) := fun s X Y row hs hg hrow =>
  Blk.own (β := Unit) g (C s) t () X Y row hs hg hrow

end Go.Proofs.YthblhibkbcmbaaaDoor
