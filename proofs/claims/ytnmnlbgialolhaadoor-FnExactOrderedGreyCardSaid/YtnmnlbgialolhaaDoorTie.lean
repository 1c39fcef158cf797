/-
  DERIVED. GIVEN WITH THE SEED: THE PROGRAM's TIES (one call each: nine closed facts by the kernel) AND EACH ROW's TIE, after the 31st guide's Derived/Test/Toyas{Tie, Card}.lean. No idea stands in it: it is a product of the set-up. Laid BY PROGRAM, IN A SANDBOX (cutbox-door.mjs). By AI agents, Wed Nov 11 2026. No macro, syntax, notation, axiom, sorry.
-/
import Derived.Test.YtnmnlbgialolhaaDoorRows
import Derived.LaidByTextLater
import Derived.SevenTiedAt
import Derived.LaidSub
import Derived.LaidOnce
namespace Go.Proofs.YtnmnlbgialolhaaDoor
open Go
set_option maxRecDepth 100000
theorem seatTie1 : Tryd.prog.laidByTextLater [("bytes.ErrTooLarge", Rows.laid_bytes_ErrTooLarge), ("loop.example/g01165/impl.errRowLength", Rows.laid_loop_example_g01165_impl_errRowLength), ("loop.example/g01165/impl.errNoResult", Rows.laid_loop_example_g01165_impl_errNoResult), ("loop.example/g01165/impl.places", Rows.laid_loop_example_g01165_impl_places), ("loop.example/g01165/impl.roundedShares", Rows.laid_loop_example_g01165_impl_roundedShares), ("loop.example/g01165/impl.restMove", Rows.laid_loop_example_g01165_impl_restMove)] [.sentinel, .sentinel, .sentinel, .data, .data, .data] true :=
  Program.laidByTextLater_by_one 91 8 17 (by kernel_rfl) (by kernel_rfl) (by kernel_rfl) (by kernel_rfl) (by kernel_rfl) (by kernel_rfl) (fun _ _ => by kernel_rfl)
theorem noOwnUnsafe : Tryd.pinned.checked.prog.headLifts.contains "ownunsafe" = false := by kernel_rfl
theorem tie : Tryd.prog.laidByTextLater [("bytes.ErrTooLarge", Rows.laid_bytes_ErrTooLarge), ("loop.example/g01165/impl.errRowLength", Rows.laid_loop_example_g01165_impl_errRowLength), ("loop.example/g01165/impl.errNoResult", Rows.laid_loop_example_g01165_impl_errNoResult)] [.sentinel, .sentinel, .sentinel] true :=
  Program.laidByTextLater.sub seatTie1 ["bytes.ErrTooLarge", "loop.example/g01165/impl.errRowLength", "loop.example/g01165/impl.errNoResult"] (by kernel_rfl) (by kernel_rfl)
theorem fnExactResidueOf_row_tie : Rows.fnExactResidueOfRow.laidByTextAt .later Tryd.pinned [.sentinel, .sentinel, .sentinel] true :=
  OpenClaim.laidByTextAt_later rfl rfl tie noOwnUnsafe
theorem fnExactFromResidue_row_tie : Rows.fnExactFromResidueRow.laidByTextAt .later Tryd.pinned [.sentinel, .sentinel, .sentinel] true :=
  OpenClaim.laidByTextAt_later rfl rfl tie noOwnUnsafe
theorem fnResidues_row_tie : Rows.fnResiduesRow.laidByTextAt .later Tryd.pinned [.sentinel, .sentinel, .sentinel] true :=
  OpenClaim.laidByTextAt_later rfl rfl tie noOwnUnsafe
theorem tie2 : Tryd.prog.laidByTextLater [("loop.example/g01165/impl.errRowLength", Rows.laid_loop_example_g01165_impl_errRowLength), ("loop.example/g01165/impl.errNoResult", Rows.laid_loop_example_g01165_impl_errNoResult)] [.sentinel, .sentinel] true :=
  Program.laidByTextLater.sub seatTie1 ["loop.example/g01165/impl.errRowLength", "loop.example/g01165/impl.errNoResult"] (by kernel_rfl) (by kernel_rfl)
theorem fnExactGreyOfPicture_row_tie : Rows.fnExactGreyOfPictureRow.laidByTextAt .later Tryd.pinned [.sentinel, .sentinel] true :=
  OpenClaim.laidByTextAt_later rfl rfl tie2 noOwnUnsafe
theorem fnExactMeanError_row_tie : Rows.fnExactMeanErrorRow.laidByTextAt .later Tryd.pinned [.sentinel, .sentinel] true :=
  OpenClaim.laidByTextAt_later rfl rfl tie2 noOwnUnsafe
theorem tie3 : Tryd.prog.laidByTextLater [("bytes.ErrTooLarge", Rows.laid_bytes_ErrTooLarge), ("loop.example/g01165/impl.errNoResult", Rows.laid_loop_example_g01165_impl_errNoResult), ("loop.example/g01165/impl.places", Rows.laid_loop_example_g01165_impl_places)] [.sentinel, .sentinel, .data] true :=
  Program.laidByTextLater.sub seatTie1 ["bytes.ErrTooLarge", "loop.example/g01165/impl.errNoResult", "loop.example/g01165/impl.places"] (by kernel_rfl) (by kernel_rfl)
theorem fnExactOrderedGrey_row_tie : Rows.fnExactOrderedGreyRow.laidByTextAt .later Tryd.pinned [.sentinel, .sentinel, .data] true :=
  OpenClaim.laidByTextAt_later rfl rfl tie3 noOwnUnsafe
theorem tie4 : Tryd.prog.laidByTextLater [("bytes.ErrTooLarge", Rows.laid_bytes_ErrTooLarge), ("loop.example/g01165/impl.errNoResult", Rows.laid_loop_example_g01165_impl_errNoResult), ("loop.example/g01165/impl.roundedShares", Rows.laid_loop_example_g01165_impl_roundedShares), ("loop.example/g01165/impl.restMove", Rows.laid_loop_example_g01165_impl_restMove)] [.sentinel, .sentinel, .data, .data] true :=
  Program.laidByTextLater.sub seatTie1 ["bytes.ErrTooLarge", "loop.example/g01165/impl.errNoResult", "loop.example/g01165/impl.roundedShares", "loop.example/g01165/impl.restMove"] (by kernel_rfl) (by kernel_rfl)
theorem fnExactSpreadGrey_row_tie : Rows.fnExactSpreadGreyRow.laidByTextAt .later Tryd.pinned [.sentinel, .sentinel, .data, .data] true :=
  OpenClaim.laidByTextAt_later rfl rfl tie4 noOwnUnsafe
theorem fnExactResidueOfUpto_row_tie : Rows.fnExactResidueOfUptoRow.laidByTextAt .later Tryd.pinned [.sentinel, .sentinel, .sentinel] true :=
  OpenClaim.laidByTextAt_later rfl rfl tie noOwnUnsafe
theorem fnExactFromResidueUpto_row_tie : Rows.fnExactFromResidueUptoRow.laidByTextAt .later Tryd.pinned [.sentinel, .sentinel, .sentinel] true :=
  OpenClaim.laidByTextAt_later rfl rfl tie noOwnUnsafe
theorem fnExactGreyOfPictureUpto_row_tie : Rows.fnExactGreyOfPictureUptoRow.laidByTextAt .later Tryd.pinned [.sentinel, .sentinel] true :=
  OpenClaim.laidByTextAt_later rfl rfl tie2 noOwnUnsafe
theorem fnExactMeanErrorUpto_row_tie : Rows.fnExactMeanErrorUptoRow.laidByTextAt .later Tryd.pinned [.sentinel, .sentinel] true :=
  OpenClaim.laidByTextAt_later rfl rfl tie2 noOwnUnsafe
theorem fnExactOrderedGreyUpto_row_tie : Rows.fnExactOrderedGreyUptoRow.laidByTextAt .later Tryd.pinned [.sentinel, .sentinel, .data] true :=
  OpenClaim.laidByTextAt_later rfl rfl tie3 noOwnUnsafe
theorem fnExactSpreadGreyUpto_row_tie : Rows.fnExactSpreadGreyUptoRow.laidByTextAt .later Tryd.pinned [.sentinel, .sentinel, .data, .data] true :=
  OpenClaim.laidByTextAt_later rfl rfl tie4 noOwnUnsafe
theorem fnResiduesUpto_row_tie : Rows.fnResiduesUptoRow.laidByTextAt .later Tryd.pinned [.sentinel, .sentinel, .sentinel] true :=
  OpenClaim.laidByTextAt_later rfl rfl tie noOwnUnsafe
end Go.Proofs.YtnmnlbgialolhaaDoor
