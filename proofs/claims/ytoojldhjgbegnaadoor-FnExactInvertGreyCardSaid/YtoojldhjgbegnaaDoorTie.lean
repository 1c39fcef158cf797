/-
  DERIVED. GIVEN WITH THE SEED: THE PROGRAM's TIES (one call each: nine closed facts by the kernel) AND EACH ROW's TIE, after the 31st guide's Derived/Test/Toyas{Tie, Card}.lean. No idea stands in it: it is a product of the set-up. Laid BY PROGRAM, IN A SANDBOX (cutbox-door.mjs). By AI agents, Wed Nov 11 2026. No macro, syntax, notation, axiom, sorry.
-/
import Derived.Test.YtoojldhjgbegnaaDoorRows
import Derived.LaidByTextLater
import Derived.SevenTiedAt
import Derived.LaidSub
import Derived.LaidOnce
namespace Go.Proofs.YtoojldhjgbegnaaDoor
open Go
set_option maxRecDepth 100000
theorem seatTie1 : Tryd.prog.laidByTextLater [("loop.example/g01165/impl.errRowLength", Rows.laid_loop_example_g01165_impl_errRowLength), ("loop.example/g01165/impl.errNoResult", Rows.laid_loop_example_g01165_impl_errNoResult), ("loop.example/g01165/impl.greyMoves", Rows.laid_loop_example_g01165_impl_greyMoves)] [.sentinel, .sentinel, .data] true :=
  Program.laidByTextLater_by_one 56 8 9 (by kernel_rfl) (by kernel_rfl) (by kernel_rfl) (by kernel_rfl) (by kernel_rfl) (by kernel_rfl) (fun _ _ => by kernel_rfl)
theorem noOwnUnsafe : Tryd.pinned.checked.prog.headLifts.contains "ownunsafe" = false := by kernel_rfl
theorem tie : Tryd.prog.laidByTextLater [("loop.example/g01165/impl.errNoResult", Rows.laid_loop_example_g01165_impl_errNoResult)] [.sentinel] true :=
  Program.laidByTextLater.sub seatTie1 ["loop.example/g01165/impl.errNoResult"] (by kernel_rfl) (by kernel_rfl)
theorem fnExactInvertGrey_row_tie : Rows.fnExactInvertGreyRow.laidByTextAt .later Tryd.pinned [.sentinel] true :=
  OpenClaim.laidByTextAt_later rfl rfl tie noOwnUnsafe
theorem tie2 : Tryd.prog.laidByTextLater [("loop.example/g01165/impl.errRowLength", Rows.laid_loop_example_g01165_impl_errRowLength), ("loop.example/g01165/impl.errNoResult", Rows.laid_loop_example_g01165_impl_errNoResult)] [.sentinel, .sentinel] true :=
  Program.laidByTextLater.sub seatTie1 ["loop.example/g01165/impl.errRowLength", "loop.example/g01165/impl.errNoResult"] (by kernel_rfl) (by kernel_rfl)
theorem fnExactStackPictures_row_tie : Rows.fnExactStackPicturesRow.laidByTextAt .later Tryd.pinned [.sentinel, .sentinel] true :=
  OpenClaim.laidByTextAt_later rfl rfl tie2 noOwnUnsafe
theorem tie3 : Tryd.prog.laidByTextLater [("loop.example/g01165/impl.errNoResult", Rows.laid_loop_example_g01165_impl_errNoResult), ("loop.example/g01165/impl.greyMoves", Rows.laid_loop_example_g01165_impl_greyMoves)] [.sentinel, .data] true :=
  Program.laidByTextLater.sub seatTie1 ["loop.example/g01165/impl.errNoResult", "loop.example/g01165/impl.greyMoves"] (by kernel_rfl) (by kernel_rfl)
theorem fnExactCutPeaks_row_tie : Rows.fnExactCutPeaksRow.laidByTextAt .later Tryd.pinned [.sentinel, .data] true :=
  OpenClaim.laidByTextAt_later rfl rfl tie3 noOwnUnsafe
theorem fnExactReconstructGrey_row_tie : Rows.fnExactReconstructGreyRow.laidByTextAt .later Tryd.pinned [.sentinel, .data] true :=
  OpenClaim.laidByTextAt_later rfl rfl tie3 noOwnUnsafe
theorem fnExactInvertGreyUpto_row_tie : Rows.fnExactInvertGreyUptoRow.laidByTextAt .later Tryd.pinned [.sentinel] true :=
  OpenClaim.laidByTextAt_later rfl rfl tie noOwnUnsafe
theorem fnExactStackPicturesUpto_row_tie : Rows.fnExactStackPicturesUptoRow.laidByTextAt .later Tryd.pinned [.sentinel, .sentinel] true :=
  OpenClaim.laidByTextAt_later rfl rfl tie2 noOwnUnsafe
theorem fnExactCutPeaksUpto_row_tie : Rows.fnExactCutPeaksUptoRow.laidByTextAt .later Tryd.pinned [.sentinel, .data] true :=
  OpenClaim.laidByTextAt_later rfl rfl tie3 noOwnUnsafe
theorem fnExactReconstructGreyUpto_row_tie : Rows.fnExactReconstructGreyUptoRow.laidByTextAt .later Tryd.pinned [.sentinel, .data] true :=
  OpenClaim.laidByTextAt_later rfl rfl tie3 noOwnUnsafe
end Go.Proofs.YtoojldhjgbegnaaDoor
