/-
  DERIVED. GIVEN WITH THE SEED: THE PROGRAM's TIES (one call each: nine closed facts by the kernel) AND EACH ROW's TIE, after the 31st guide's Derived/Test/Toyas{Tie, Card}.lean. No idea stands in it: it is a product of the set-up. Laid BY PROGRAM, IN A SANDBOX (cutbox-door.mjs). By AI agents, Wed Nov 11 2026. No macro, syntax, notation, axiom, sorry.
-/
import Derived.Test.YtaopdhncapoefaaDoorRows
import Derived.LaidByTextLater
import Derived.SevenTiedAt
import Derived.LaidSub
import Derived.LaidOnce
namespace Go.Proofs.YtaopdhncapoefaaDoor
open Go
set_option maxRecDepth 100000
theorem seatTie1 : Tryd.prog.laidByTextLater [("math/bits.deBruijn32tab", Rows.laid_math_bits_deBruijn32tab), ("loop.example/g01165/impl.errRowLength", Rows.laid_loop_example_g01165_impl_errRowLength), ("loop.example/g01165/impl.rightPixels", Rows.laid_loop_example_g01165_impl_rightPixels), ("loop.example/g01165/impl.errNoResult", Rows.laid_loop_example_g01165_impl_errNoResult), ("loop.example/g01165/impl.ringOffsets", Rows.laid_loop_example_g01165_impl_ringOffsets)] [.data, .sentinel, .data, .sentinel, .data] true :=
  Program.laidByTextLater_by_one 74 8 33 (by kernel_rfl) (by kernel_rfl) (by kernel_rfl) (by kernel_rfl) (by kernel_rfl) (by kernel_rfl) (fun _ _ => by kernel_rfl)
theorem noOwnUnsafe : Tryd.pinned.checked.prog.headLifts.contains "ownunsafe" = false := by kernel_rfl
theorem tie : Tryd.prog.laidByTextLater [("loop.example/g01165/impl.errRowLength", Rows.laid_loop_example_g01165_impl_errRowLength), ("loop.example/g01165/impl.rightPixels", Rows.laid_loop_example_g01165_impl_rightPixels)] [.sentinel, .data] true :=
  Program.laidByTextLater.sub seatTie1 ["loop.example/g01165/impl.errRowLength", "loop.example/g01165/impl.rightPixels"] (by kernel_rfl) (by kernel_rfl)
theorem fnExactEdgeLength_row_tie : Rows.fnExactEdgeLengthRow.laidByTextAt .later Tryd.pinned [.sentinel, .data] true :=
  OpenClaim.laidByTextAt_later rfl rfl tie noOwnUnsafe
theorem tie2 : Tryd.prog.laidByTextLater [("loop.example/g01165/impl.errRowLength", Rows.laid_loop_example_g01165_impl_errRowLength), ("loop.example/g01165/impl.rightPixels", Rows.laid_loop_example_g01165_impl_rightPixels), ("loop.example/g01165/impl.errNoResult", Rows.laid_loop_example_g01165_impl_errNoResult)] [.sentinel, .data, .sentinel] true :=
  Program.laidByTextLater.sub seatTie1 ["loop.example/g01165/impl.errRowLength", "loop.example/g01165/impl.rightPixels", "loop.example/g01165/impl.errNoResult"] (by kernel_rfl) (by kernel_rfl)
theorem fnExactQuadCounts_row_tie : Rows.fnExactQuadCountsRow.laidByTextAt .later Tryd.pinned [.sentinel, .data, .sentinel] true :=
  OpenClaim.laidByTextAt_later rfl rfl tie2 noOwnUnsafe
theorem tie3 : Tryd.prog.laidByTextLater [("loop.example/g01165/impl.errRowLength", Rows.laid_loop_example_g01165_impl_errRowLength), ("loop.example/g01165/impl.errNoResult", Rows.laid_loop_example_g01165_impl_errNoResult), ("loop.example/g01165/impl.ringOffsets", Rows.laid_loop_example_g01165_impl_ringOffsets)] [.sentinel, .sentinel, .data] true :=
  Program.laidByTextLater.sub seatTie1 ["loop.example/g01165/impl.errRowLength", "loop.example/g01165/impl.errNoResult", "loop.example/g01165/impl.ringOffsets"] (by kernel_rfl) (by kernel_rfl)
theorem fnExactEndsOf_row_tie : Rows.fnExactEndsOfRow.laidByTextAt .later Tryd.pinned [.sentinel, .sentinel, .data] true :=
  OpenClaim.laidByTextAt_later rfl rfl tie3 noOwnUnsafe
theorem tie4 : Tryd.prog.laidByTextLater [("math/bits.deBruijn32tab", Rows.laid_math_bits_deBruijn32tab), ("loop.example/g01165/impl.errRowLength", Rows.laid_loop_example_g01165_impl_errRowLength)] [.data, .sentinel] true :=
  Program.laidByTextLater.sub seatTie1 ["math/bits.deBruijn32tab", "loop.example/g01165/impl.errRowLength"] (by kernel_rfl) (by kernel_rfl)
theorem fnExactRunsOf_row_tie : Rows.fnExactRunsOfRow.laidByTextAt .later Tryd.pinned [.data, .sentinel] true :=
  OpenClaim.laidByTextAt_later rfl rfl tie4 noOwnUnsafe
theorem fnExactEdgeLengthUpto_row_tie : Rows.fnExactEdgeLengthUptoRow.laidByTextAt .later Tryd.pinned [.sentinel, .data] true :=
  OpenClaim.laidByTextAt_later rfl rfl tie noOwnUnsafe
theorem fnExactQuadCountsUpto_row_tie : Rows.fnExactQuadCountsUptoRow.laidByTextAt .later Tryd.pinned [.sentinel, .data, .sentinel] true :=
  OpenClaim.laidByTextAt_later rfl rfl tie2 noOwnUnsafe
theorem fnExactEndsOfUpto_row_tie : Rows.fnExactEndsOfUptoRow.laidByTextAt .later Tryd.pinned [.sentinel, .sentinel, .data] true :=
  OpenClaim.laidByTextAt_later rfl rfl tie3 noOwnUnsafe
theorem fnExactRunsOfUpto_row_tie : Rows.fnExactRunsOfUptoRow.laidByTextAt .later Tryd.pinned [.data, .sentinel] true :=
  OpenClaim.laidByTextAt_later rfl rfl tie4 noOwnUnsafe
end Go.Proofs.YtaopdhncapoefaaDoor
