/-
  NARROWER THAN 'FOR EVERY INPUT', by the rows' own cells (each row's printed sentence says how): FnExactEdgeLength: ifaces, laid · FnExactQuadCounts: ifaces, laid · FnExactEndsOf: ifaces, laid · FnExactRunsOf: ifaces, laid.
  DERIVED. THE GIVEN ROWS OF THIS SEAT. 4 by the template 'for every input the law returns true; each argument reads behind the call as it read before'; 0 by the template 'total and deterministic' (their statements: YtaopdhncapoefaaDoorTotals.lean).
  GIVEN WITH THE SEED: the statements are not yours to turn. If you find one false, say at which input.
  Laid BY PROGRAM, IN A SANDBOX (cutbox-rows.mjs): the forced cells as the released guide's own fill.sh prints them over the translation 52285f671cbe4bc3… (all of the seat's roots in one cut). By AI agents, Wed Nov 11 2026. No macro, syntax, notation, axiom, sorry.
-/
import Derived.Test.YtaopdhncapoefaaDoorChecked
import GoSem.Claim
import GoSem.ClaimJoined
import GoSem.ClaimMapViews
import Derived.JoinedTies
import Derived.KernelRfl
namespace Go.Proofs.YtaopdhncapoefaaDoor
/- THE CELL 'sum', in the pinned program and in every row, IS THE sha256 OF THE DUMP (.gsa) THAT YtaopdhncapoefaaDoorProg.lean LOADS. Nothing in Lean hashes anything: it is a label: what it is worth is what the hold of that sum in a sandbox is worth. -/
noncomputable def Tryd.pinned : Pinned := { name := "ytaopdhncapoefaadoor", sum := "52285f671cbe4bc30b8e81bed918c4cc586468bcc464daa4ef2cc9a41f936700", checked := Tryd.checked }
namespace Rows
def none {H : Type} : Left H := { results := [], args := [] }

/- WHAT THE LISTED PACKAGE-LEVEL VARIABLES READ AS WHEN THE CALL BEGINS. Each datum BY PROGRAM (the guide's laid-datum.mjs) off the statement by which the dump's own 'gosem.cut.vars' lays the variable. In a bare row this is a premise. The card (YtaopdhncapoefaaDoorCards.lean) ties it to the program's text. -/
def laid_loop_example_g01165_impl_errRowLength {H : Type} : DataW H := .iface "*errors.errorString" (.ptr (.agg [.lit (.string [97, 32, 114, 111, 119, 32, 104, 97, 115, 32, 110, 111, 32, 112, 105, 120, 101, 108, 115, 44, 32, 111, 114, 32, 116, 111, 111, 32, 109, 97, 110, 121])]))
def laid_loop_example_g01165_impl_rightPixels {H : Type} : DataW H := .agg [.agg [.lit (.int .i64 0), .lit (.int .i64 0)], .agg [.lit (.int .i64 (-1)), .lit (.int .i64 0)], .agg [.lit (.int .i64 (-1)), .lit (.int .i64 (-1))], .agg [.lit (.int .i64 0), .lit (.int .i64 (-1))]]
def laid_loop_example_g01165_impl_errNoResult {H : Type} : DataW H := .iface "*errors.errorString" (.ptr (.agg [.lit (.string [116, 104, 101, 32, 114, 101, 115, 117, 108, 116, 32, 100, 111, 101, 115, 32, 110, 111, 116, 32, 101, 120, 105, 115, 116])]))
def laid_loop_example_g01165_impl_ringOffsets {H : Type} : DataW H := .agg [.agg [.lit (.int .i64 1), .lit (.int .i64 0)], .agg [.lit (.int .i64 1), .lit (.int .i64 1)], .agg [.lit (.int .i64 0), .lit (.int .i64 1)], .agg [.lit (.int .i64 (-1)), .lit (.int .i64 1)], .agg [.lit (.int .i64 (-1)), .lit (.int .i64 0)], .agg [.lit (.int .i64 (-1)), .lit (.int .i64 (-1))], .agg [.lit (.int .i64 0), .lit (.int .i64 (-1))], .agg [.lit (.int .i64 1), .lit (.int .i64 (-1))]]
def laid_math_bits_deBruijn32tab {H : Type} : DataW H := .agg [.lit (.int .u8 0), .lit (.int .u8 1), .lit (.int .u8 28), .lit (.int .u8 2), .lit (.int .u8 29), .lit (.int .u8 14), .lit (.int .u8 24), .lit (.int .u8 3), .lit (.int .u8 30), .lit (.int .u8 22), .lit (.int .u8 20), .lit (.int .u8 15), .lit (.int .u8 25), .lit (.int .u8 17), .lit (.int .u8 4), .lit (.int .u8 8), .lit (.int .u8 31), .lit (.int .u8 27), .lit (.int .u8 13), .lit (.int .u8 23), .lit (.int .u8 21), .lit (.int .u8 19), .lit (.int .u8 16), .lit (.int .u8 7), .lit (.int .u8 26), .lit (.int .u8 12), .lit (.int .u8 18), .lit (.int .u8 6), .lit (.int .u8 11), .lit (.int .u8 5), .lit (.int .u8 10), .lit (.int .u8 9)]

/-- 'laws.FnExactEdgeLength': WHATEVER THE INPUT: true; the input reads as it did. -/
def fnExactEdgeLengthSpec : ChangeSpec := { name := "fnExactEdgeLength", vars := ["loop.example/g01165/impl.errRowLength", "loop.example/g01165/impl.rightPixels"], fn := fun _ => fun
  | [d, g1, g2] => { results := [.lit (.bool true)], args := [d], vars := [g1, g2] }
  | _ => none }
def fnExactEdgeLengthRow : OpenClaim := { program := "ytaopdhncapoefaadoor", sum := "52285f671cbe4bc30b8e81bed918c4cc586468bcc464daa4ef2cc9a41f936700", func := "loop.example/g01165/laws.FnExactEdgeLength", spec := "fnExactEdgeLength", unfollowed := true, recurses := true, named := ["loop.example/g01165/impl.errRowLength", "loop.example/g01165/impl.rightPixels"], ifaces := true, apart := false, laid := [("loop.example/g01165/impl.errRowLength", laid_loop_example_g01165_impl_errRowLength), ("loop.example/g01165/impl.rightPixels", laid_loop_example_g01165_impl_rightPixels)] }
def FnExactEdgeLengthSaid : Prop := fnExactEdgeLengthRow.holds Tryd.pinned (OpenSpec.ofChange fnExactEdgeLengthSpec)

/-- ITS FALSE NEIGHBOUR: 'it returns false'. Refute it at one input. -/
def fnExactEdgeLengthWrong : ChangeSpec := { name := "fnExactEdgeLength", vars := ["loop.example/g01165/impl.errRowLength", "loop.example/g01165/impl.rightPixels"], fn := fun _ => fun
  | [d, g1, g2] => { results := [.lit (.bool false)], args := [d], vars := [g1, g2] }
  | _ => none }
def FnExactEdgeLengthWrongFalsely : Prop := fnExactEdgeLengthRow.holds Tryd.pinned (OpenSpec.ofChange fnExactEdgeLengthWrong)

/-- 'laws.FnExactQuadCounts': WHATEVER THE INPUT: true; the input reads as it did. -/
def fnExactQuadCountsSpec : ChangeSpec := { name := "fnExactQuadCounts", vars := ["loop.example/g01165/impl.errRowLength", "loop.example/g01165/impl.errNoResult", "loop.example/g01165/impl.rightPixels"], fn := fun _ => fun
  | [d, g1, g2, g3] => { results := [.lit (.bool true)], args := [d], vars := [g1, g2, g3] }
  | _ => none }
def fnExactQuadCountsRow : OpenClaim := { program := "ytaopdhncapoefaadoor", sum := "52285f671cbe4bc30b8e81bed918c4cc586468bcc464daa4ef2cc9a41f936700", func := "loop.example/g01165/laws.FnExactQuadCounts", spec := "fnExactQuadCounts", unfollowed := true, recurses := true, named := ["loop.example/g01165/impl.errRowLength", "loop.example/g01165/impl.errNoResult", "loop.example/g01165/impl.rightPixels"], ifaces := true, apart := false, laid := [("loop.example/g01165/impl.errRowLength", laid_loop_example_g01165_impl_errRowLength), ("loop.example/g01165/impl.rightPixels", laid_loop_example_g01165_impl_rightPixels), ("loop.example/g01165/impl.errNoResult", laid_loop_example_g01165_impl_errNoResult)] }
def FnExactQuadCountsSaid : Prop := fnExactQuadCountsRow.holds Tryd.pinned (OpenSpec.ofChange fnExactQuadCountsSpec)

/-- ITS FALSE NEIGHBOUR: 'it returns false'. Refute it at one input. -/
def fnExactQuadCountsWrong : ChangeSpec := { name := "fnExactQuadCounts", vars := ["loop.example/g01165/impl.errRowLength", "loop.example/g01165/impl.errNoResult", "loop.example/g01165/impl.rightPixels"], fn := fun _ => fun
  | [d, g1, g2, g3] => { results := [.lit (.bool false)], args := [d], vars := [g1, g2, g3] }
  | _ => none }
def FnExactQuadCountsWrongFalsely : Prop := fnExactQuadCountsRow.holds Tryd.pinned (OpenSpec.ofChange fnExactQuadCountsWrong)

/-- 'laws.FnExactEndsOf': WHATEVER THE INPUT: true; the input reads as it did. -/
def fnExactEndsOfSpec : ChangeSpec := { name := "fnExactEndsOf", vars := ["loop.example/g01165/impl.errRowLength", "loop.example/g01165/impl.errNoResult", "loop.example/g01165/impl.ringOffsets"], fn := fun _ => fun
  | [d, g1, g2, g3] => { results := [.lit (.bool true)], args := [d], vars := [g1, g2, g3] }
  | _ => none }
def fnExactEndsOfRow : OpenClaim := { program := "ytaopdhncapoefaadoor", sum := "52285f671cbe4bc30b8e81bed918c4cc586468bcc464daa4ef2cc9a41f936700", func := "loop.example/g01165/laws.FnExactEndsOf", spec := "fnExactEndsOf", unfollowed := true, recurses := true, named := ["loop.example/g01165/impl.errRowLength", "loop.example/g01165/impl.errNoResult", "loop.example/g01165/impl.ringOffsets"], ifaces := true, apart := false, laid := [("loop.example/g01165/impl.errRowLength", laid_loop_example_g01165_impl_errRowLength), ("loop.example/g01165/impl.errNoResult", laid_loop_example_g01165_impl_errNoResult), ("loop.example/g01165/impl.ringOffsets", laid_loop_example_g01165_impl_ringOffsets)] }
def FnExactEndsOfSaid : Prop := fnExactEndsOfRow.holds Tryd.pinned (OpenSpec.ofChange fnExactEndsOfSpec)

/-- ITS FALSE NEIGHBOUR: 'it returns false'. Refute it at one input. -/
def fnExactEndsOfWrong : ChangeSpec := { name := "fnExactEndsOf", vars := ["loop.example/g01165/impl.errRowLength", "loop.example/g01165/impl.errNoResult", "loop.example/g01165/impl.ringOffsets"], fn := fun _ => fun
  | [d, g1, g2, g3] => { results := [.lit (.bool false)], args := [d], vars := [g1, g2, g3] }
  | _ => none }
def FnExactEndsOfWrongFalsely : Prop := fnExactEndsOfRow.holds Tryd.pinned (OpenSpec.ofChange fnExactEndsOfWrong)

/-- 'laws.FnExactRunsOf': WHATEVER THE INPUT: true; the input reads as it did. -/
def fnExactRunsOfSpec : ChangeSpec := { name := "fnExactRunsOf", vars := ["loop.example/g01165/impl.errRowLength"], fn := fun _ => fun
  | [d, g1] => { results := [.lit (.bool true)], args := [d], vars := [g1] }
  | _ => none }
def fnExactRunsOfRow : OpenClaim := { program := "ytaopdhncapoefaadoor", sum := "52285f671cbe4bc30b8e81bed918c4cc586468bcc464daa4ef2cc9a41f936700", func := "loop.example/g01165/laws.FnExactRunsOf", spec := "fnExactRunsOf", named := ["loop.example/g01165/impl.errRowLength", "math/bits.deBruijn32tab"], ifaces := true, apart := false, laid := [("math/bits.deBruijn32tab", laid_math_bits_deBruijn32tab), ("loop.example/g01165/impl.errRowLength", laid_loop_example_g01165_impl_errRowLength)] }
def FnExactRunsOfSaid : Prop := fnExactRunsOfRow.holds Tryd.pinned (OpenSpec.ofChange fnExactRunsOfSpec)

/-- ITS FALSE NEIGHBOUR: 'it returns false'. Refute it at one input. -/
def fnExactRunsOfWrong : ChangeSpec := { name := "fnExactRunsOf", vars := ["loop.example/g01165/impl.errRowLength"], fn := fun _ => fun
  | [d, g1] => { results := [.lit (.bool false)], args := [d], vars := [g1] }
  | _ => none }
def FnExactRunsOfWrongFalsely : Prop := fnExactRunsOfRow.holds Tryd.pinned (OpenSpec.ofChange fnExactRunsOfWrong)

/- THE SECOND FORM. 'bulk': how many values and letters a reading holds, each counted each time it is reached (what is shared counts as often as it is met; a slice's spare places count too). A statement '..UptoSaid' is the law's where the arguments, and the package variables that the reading takes, are together of bulk at most 1048576: NARROWER than '..Said'. Prove '..Said' where nothing that the law and all that it calls make is longer than what came in: it says more and counts as full. Else prove '..UptoSaid'. A law counts once. -/
mutual
def uptoBulk {H : Type} : DataW H → Nat
  | .lit (.string bytes) => bytes.length + 1
  | .lit _ => 1
  | .nil => 1
  | .ptr d => uptoBulk d + 1
  | .slice elems spare => uptoBulkAll elems + uptoBulkAll spare + 1
  | .agg parts => uptoBulkAll parts + 1
  | .iface _ d => uptoBulk d + 1
  | .map entries => uptoBulkEntries entries + 1
  | .held _ => 1
def uptoBulkAll {H : Type} : List (DataW H) → Nat
  | [] => 0
  | d :: r => uptoBulk d + uptoBulkAll r
def uptoBulkEntries {H : Type} : List (Lit × DataW H) → Nat
  | [] => 0
  | x :: r => uptoBulkEntry x + uptoBulkEntries r
def uptoBulkEntry {H : Type} : Lit × DataW H → Nat
  | (.string bytes, d) => bytes.length + uptoBulk d + 1
  | (_, d) => uptoBulk d + 1
 end
def uptoSmall : (H : Type) → List (DataW H) → Bool := fun _ ds => decide (uptoBulkAll ds ≤ 1048576)
def OpenSpec.upto (s : _root_.Go.ChangeSpec) : _root_.Go.OpenSpec := { _root_.Go.OpenSpec.ofChange s with cond := some uptoSmall }

/-- 'laws.FnExactEdgeLength', WHERE WHAT IT READS IS OF BULK AT MOST 1048576: true; the input reads as it did. -/
def fnExactEdgeLengthUptoRow : OpenClaim := { program := "ytaopdhncapoefaadoor", sum := "52285f671cbe4bc30b8e81bed918c4cc586468bcc464daa4ef2cc9a41f936700", func := "loop.example/g01165/laws.FnExactEdgeLength", spec := "fnExactEdgeLength", unfollowed := true, recurses := true, named := ["loop.example/g01165/impl.errRowLength", "loop.example/g01165/impl.rightPixels"], ifaces := true, apart := false, laid := [("loop.example/g01165/impl.errRowLength", laid_loop_example_g01165_impl_errRowLength), ("loop.example/g01165/impl.rightPixels", laid_loop_example_g01165_impl_rightPixels)], narrowed := true }
def FnExactEdgeLengthUptoSaid : Prop := fnExactEdgeLengthUptoRow.holds Tryd.pinned (OpenSpec.upto fnExactEdgeLengthSpec)

/-- 'laws.FnExactQuadCounts', WHERE WHAT IT READS IS OF BULK AT MOST 1048576: true; the input reads as it did. -/
def fnExactQuadCountsUptoRow : OpenClaim := { program := "ytaopdhncapoefaadoor", sum := "52285f671cbe4bc30b8e81bed918c4cc586468bcc464daa4ef2cc9a41f936700", func := "loop.example/g01165/laws.FnExactQuadCounts", spec := "fnExactQuadCounts", unfollowed := true, recurses := true, named := ["loop.example/g01165/impl.errRowLength", "loop.example/g01165/impl.errNoResult", "loop.example/g01165/impl.rightPixels"], ifaces := true, apart := false, laid := [("loop.example/g01165/impl.errRowLength", laid_loop_example_g01165_impl_errRowLength), ("loop.example/g01165/impl.rightPixels", laid_loop_example_g01165_impl_rightPixels), ("loop.example/g01165/impl.errNoResult", laid_loop_example_g01165_impl_errNoResult)], narrowed := true }
def FnExactQuadCountsUptoSaid : Prop := fnExactQuadCountsUptoRow.holds Tryd.pinned (OpenSpec.upto fnExactQuadCountsSpec)

/-- 'laws.FnExactEndsOf', WHERE WHAT IT READS IS OF BULK AT MOST 1048576: true; the input reads as it did. -/
def fnExactEndsOfUptoRow : OpenClaim := { program := "ytaopdhncapoefaadoor", sum := "52285f671cbe4bc30b8e81bed918c4cc586468bcc464daa4ef2cc9a41f936700", func := "loop.example/g01165/laws.FnExactEndsOf", spec := "fnExactEndsOf", unfollowed := true, recurses := true, named := ["loop.example/g01165/impl.errRowLength", "loop.example/g01165/impl.errNoResult", "loop.example/g01165/impl.ringOffsets"], ifaces := true, apart := false, laid := [("loop.example/g01165/impl.errRowLength", laid_loop_example_g01165_impl_errRowLength), ("loop.example/g01165/impl.errNoResult", laid_loop_example_g01165_impl_errNoResult), ("loop.example/g01165/impl.ringOffsets", laid_loop_example_g01165_impl_ringOffsets)], narrowed := true }
def FnExactEndsOfUptoSaid : Prop := fnExactEndsOfUptoRow.holds Tryd.pinned (OpenSpec.upto fnExactEndsOfSpec)

/-- 'laws.FnExactRunsOf', WHERE WHAT IT READS IS OF BULK AT MOST 1048576: true; the input reads as it did. -/
def fnExactRunsOfUptoRow : OpenClaim := { program := "ytaopdhncapoefaadoor", sum := "52285f671cbe4bc30b8e81bed918c4cc586468bcc464daa4ef2cc9a41f936700", func := "loop.example/g01165/laws.FnExactRunsOf", spec := "fnExactRunsOf", named := ["loop.example/g01165/impl.errRowLength", "math/bits.deBruijn32tab"], ifaces := true, apart := false, laid := [("math/bits.deBruijn32tab", laid_math_bits_deBruijn32tab), ("loop.example/g01165/impl.errRowLength", laid_loop_example_g01165_impl_errRowLength)], narrowed := true }
def FnExactRunsOfUptoSaid : Prop := fnExactRunsOfUptoRow.holds Tryd.pinned (OpenSpec.upto fnExactRunsOfSpec)

end Rows
end Go.Proofs.YtaopdhncapoefaaDoor
