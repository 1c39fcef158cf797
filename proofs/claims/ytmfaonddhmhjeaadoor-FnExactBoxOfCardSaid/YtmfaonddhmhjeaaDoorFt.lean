/- The library's table of the search for the lowest bit, as the row lays it. -/
import Derived.Test.YtmfaonddhmhjeaaDoorFr
import Derived.Test.YtmfaonddhmhjeaaDoorTz
import Derived.Lib.LaidTab
namespace Go.Proofs.YtmfaonddhmhjeaaDoor
open Go.ChangeShapes Go.WideShapes Go.ChangeAt Go.RowKit Go.Deep Go.WideElems
set_option linter.unusedVariables false

theorem gTab : Tryd.prog.globalNamed "math/bits.deBruijn32tab" = some 0 := by kernel_rfl
theorem tTab : (Tryd.prog.globals[0]?).map (·.type) = some 104 := by kernel_rfl
theorem tab_at {W : World} (h : Lib.TabIs Tryd.prog W "math/bits.deBruijn32tab" .u8 (Lib.deBruijn32tab.map Int.ofNat)) : TabW W := fun j hj => by
  rw [World.var?_cell gTab h j]
  have hl : j < Lib.deBruijn32tab.length := hj
  rw [List.getElem?_toArray, List.getElem?_map, List.getElem?_map, List.getElem?_eq_getElem hl, List.getD_eq_getElem?_getD, List.getElem?_eq_getElem hl]
  rfl
end Go.Proofs.YtmfaonddhmhjeaaDoor
