/-
  DERIVED. GIVEN WITH THE SEED: THE PROGRAM's TIES (one call each: nine closed facts by the kernel) AND EACH ROW's TIE, after the 31st guide's Derived/Test/Toyas{Tie, Card}.lean. No idea stands in it: it is a product of the set-up. Laid BY PROGRAM, IN A SANDBOX (cutbox-door.mjs). By AI agents, Wed Nov 11 2026. No macro, syntax, notation, axiom, sorry.
-/
import Derived.Test.YthblhibkbcmbaaaDoorRows
import Derived.LaidByTextLater
import Derived.SevenTiedAt
import Derived.LaidSub
import Derived.LaidOnce
namespace Go.Proofs.YthblhibkbcmbaaaDoor
open Go
set_option maxRecDepth 100000
theorem seatTie1 : Tryd.prog.laidByTextLater [("math/bits.deBruijn64tab", Rows.laid_math_bits_deBruijn64tab), ("bytes.ErrTooLarge", Rows.laid_bytes_ErrTooLarge), ("loop.example/g01165/impl.errRowLength", Rows.laid_loop_example_g01165_impl_errRowLength), ("loop.example/g01165/impl.errNoResult", Rows.laid_loop_example_g01165_impl_errNoResult), ("loop.example/g01165/impl.quarterVisits", Rows.laid_loop_example_g01165_impl_quarterVisits)] [.data, .sentinel, .sentinel, .sentinel, .data] true :=
  Program.laidByTextLater_by_one 121 8 65 (by kernel_rfl) (by kernel_rfl) (by kernel_rfl) (by kernel_rfl) (by kernel_rfl) (by kernel_rfl) (fun _ _ => by kernel_rfl)
theorem noOwnUnsafe : Tryd.pinned.checked.prog.headLifts.contains "ownunsafe" = false := by kernel_rfl
theorem tie : Tryd.prog.laidByTextLater [("math/bits.deBruijn64tab", Rows.laid_math_bits_deBruijn64tab), ("loop.example/g01165/impl.errRowLength", Rows.laid_loop_example_g01165_impl_errRowLength), ("loop.example/g01165/impl.errNoResult", Rows.laid_loop_example_g01165_impl_errNoResult), ("loop.example/g01165/impl.quarterVisits", Rows.laid_loop_example_g01165_impl_quarterVisits)] [.data, .sentinel, .sentinel, .data] true :=
  Program.laidByTextLater.sub seatTie1 ["math/bits.deBruijn64tab", "loop.example/g01165/impl.errRowLength", "loop.example/g01165/impl.errNoResult", "loop.example/g01165/impl.quarterVisits"] (by kernel_rfl) (by kernel_rfl)
theorem fnExactPictureAlong_row_tie : Rows.fnExactPictureAlongRow.laidByTextAt .later Tryd.pinned [.data, .sentinel, .sentinel, .data] true :=
  OpenClaim.laidByTextAt_later rfl rfl tie noOwnUnsafe
theorem tie2 : Tryd.prog.laidByTextLater [("bytes.ErrTooLarge", Rows.laid_bytes_ErrTooLarge), ("loop.example/g01165/impl.errNoResult", Rows.laid_loop_example_g01165_impl_errNoResult), ("loop.example/g01165/impl.quarterVisits", Rows.laid_loop_example_g01165_impl_quarterVisits)] [.sentinel, .sentinel, .data] true :=
  Program.laidByTextLater.sub seatTie1 ["bytes.ErrTooLarge", "loop.example/g01165/impl.errNoResult", "loop.example/g01165/impl.quarterVisits"] (by kernel_rfl) (by kernel_rfl)
theorem fnExactPictureFromRuns_row_tie : Rows.fnExactPictureFromRunsRow.laidByTextAt .later Tryd.pinned [.sentinel, .sentinel, .data] true :=
  OpenClaim.laidByTextAt_later rfl rfl tie2 noOwnUnsafe
theorem tie3 : Tryd.prog.laidByTextLater [("math/bits.deBruijn64tab", Rows.laid_math_bits_deBruijn64tab), ("bytes.ErrTooLarge", Rows.laid_bytes_ErrTooLarge), ("loop.example/g01165/impl.errRowLength", Rows.laid_loop_example_g01165_impl_errRowLength), ("loop.example/g01165/impl.errNoResult", Rows.laid_loop_example_g01165_impl_errNoResult), ("loop.example/g01165/impl.quarterVisits", Rows.laid_loop_example_g01165_impl_quarterVisits)] [.data, .sentinel, .sentinel, .sentinel, .data] true :=
  Program.laidByTextLater.sub seatTie1 ["math/bits.deBruijn64tab", "bytes.ErrTooLarge", "loop.example/g01165/impl.errRowLength", "loop.example/g01165/impl.errNoResult", "loop.example/g01165/impl.quarterVisits"] (by kernel_rfl) (by kernel_rfl)
theorem fnAlong_row_tie : Rows.fnAlongRow.laidByTextAt .later Tryd.pinned [.data, .sentinel, .sentinel, .sentinel, .data] true :=
  OpenClaim.laidByTextAt_later rfl rfl tie3 noOwnUnsafe
theorem fnExactPictureAlongUpto_row_tie : Rows.fnExactPictureAlongUptoRow.laidByTextAt .later Tryd.pinned [.data, .sentinel, .sentinel, .data] true :=
  OpenClaim.laidByTextAt_later rfl rfl tie noOwnUnsafe
theorem fnExactPictureFromRunsUpto_row_tie : Rows.fnExactPictureFromRunsUptoRow.laidByTextAt .later Tryd.pinned [.sentinel, .sentinel, .data] true :=
  OpenClaim.laidByTextAt_later rfl rfl tie2 noOwnUnsafe
theorem fnAlongUpto_row_tie : Rows.fnAlongUptoRow.laidByTextAt .later Tryd.pinned [.data, .sentinel, .sentinel, .sentinel, .data] true :=
  OpenClaim.laidByTextAt_later rfl rfl tie3 noOwnUnsafe
end Go.Proofs.YthblhibkbcmbaaaDoor
