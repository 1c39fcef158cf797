/- The exact law of IsSimple holds: for every input the law returns true and leaves its arguments as they were; the listed variables hold what the program's own text lays there (tied by the card). No other condition. -/
import Derived.Test.YtakaglbbcaplhaaDoorCards
import Derived.Test.YtakaglbbcaplhaaDoorTie
import Derived.Test.YtakaglbbcaplhaaDoorFx
import Derived.Test.YtakaglbbcaplhaaDoorY7
import Derived.Test.YtakaglbbcaplhaaDoorFp
import Derived.SevenTiedAt
namespace Go.Proofs.YtakaglbbcaplhaaDoor
set_option linter.unusedVariables false
open Go.ChangeShapes Go.WideShapes Go.ChangeAt Go.RowKit Go.Deep Go.WideElems
open Go.ChangeMaps (open_string shut_string)

theorem door_IsSimple (os : Os) (args : Array Value) : laidMetH Tryd.prog Rows.fnExactIsSimpleRow.laid ((World.doorLaid Tryd.prog 400 os).forCall (fun _ _ => 0) ⟨#[], args, []⟩).memory :=
  laidMetH_of_parts3 (fuel := 8) (laidMet_of_run' 8 (by kernel_rfl) (by kernel_rfl)) (by kernel_rfl) (by kernel_rfl)

end Go.Proofs.YtakaglbbcaplhaaDoor
