/-
  NARROWER THAN 'FOR EVERY INPUT', by the rows' own cells (each row's printed sentence says how): FnExactIsBorder: laid · FnExactSignedArea: laid · FnExactTurningOf: laid · FnExactCornersOfBorder: laid · FnExactEdgeLength: ifaces, laid · FnExactHullOfBorder: laid · FnExactBorderFrom: laid.
  DERIVED. THE GIVEN ROWS OF THIS SEAT. 7 by the template 'for every input the law returns true; each argument reads behind the call as it read before'; 0 by the template 'total and deterministic' (their statements: YtlmmeefcnjcceaaDoorTotals.lean).
  GIVEN WITH THE SEED: the statements are not yours to turn. If you find one false, say at which input.
  Laid BY PROGRAM, IN A SANDBOX (cutbox-rows.mjs): the forced cells as the released guide's own fill.sh prints them over the translation fb4d64ae000c2d92… (all of the seat's roots in one cut). By AI agents, Wed Nov 11 2026. No macro, syntax, notation, axiom, sorry.
-/
import Derived.Test.YtlmmeefcnjcceaaDoorChecked
import GoSem.Claim
import GoSem.ClaimJoined
import GoSem.ClaimMapViews
import Derived.JoinedTies
import Derived.KernelRfl
namespace Go.Proofs.YtlmmeefcnjcceaaDoor
/- THE CELL 'sum', in the pinned program and in every row, IS THE sha256 OF THE DUMP (.gsa) THAT YtlmmeefcnjcceaaDoorProg.lean LOADS. Nothing in Lean hashes anything: it is a label: what it is worth is what the hold of that sum in a sandbox is worth. -/
noncomputable def Tryd.pinned : Pinned := { name := "ytlmmeefcnjcceaadoor", sum := "fb4d64ae000c2d9206897a5bb2ecc47c10ce77ee5fe9593c3e972ff960bba356", checked := Tryd.checked }
namespace Rows
def none {H : Type} : Left H := { results := [], args := [] }

/- WHAT THE LISTED PACKAGE-LEVEL VARIABLES READ AS WHEN THE CALL BEGINS. Each datum BY PROGRAM (the guide's laid-datum.mjs) off the statement by which the dump's own 'gosem.cut.vars' lays the variable. In a bare row this is a premise. The card (YtlmmeefcnjcceaaDoorCards.lean) ties it to the program's text. -/
def laid_loop_example_g01165_impl_moves {H : Type} : DataW H := .agg [.agg [.lit (.int .i64 1), .lit (.int .i64 0)], .agg [.lit (.int .i64 0), .lit (.int .i64 1)], .agg [.lit (.int .i64 (-1)), .lit (.int .i64 0)], .agg [.lit (.int .i64 0), .lit (.int .i64 (-1))]]
def laid_loop_example_g01165_impl_errRowLength {H : Type} : DataW H := .iface "*errors.errorString" (.ptr (.agg [.lit (.string [97, 32, 114, 111, 119, 32, 104, 97, 115, 32, 110, 111, 32, 112, 105, 120, 101, 108, 115, 44, 32, 111, 114, 32, 116, 111, 111, 32, 109, 97, 110, 121])]))
def laid_loop_example_g01165_impl_rightPixels {H : Type} : DataW H := .agg [.agg [.lit (.int .i64 0), .lit (.int .i64 0)], .agg [.lit (.int .i64 (-1)), .lit (.int .i64 0)], .agg [.lit (.int .i64 (-1)), .lit (.int .i64 (-1))], .agg [.lit (.int .i64 0), .lit (.int .i64 (-1))]]

/-- 'laws.FnExactIsBorder': WHATEVER THE INPUT: true; the input reads as it did. -/
def fnExactIsBorderSpec : ChangeSpec := { name := "fnExactIsBorder", vars := ["loop.example/g01165/impl.moves"], fn := fun _ => fun
  | [d, g1] => { results := [.lit (.bool true)], args := [d], vars := [g1] }
  | _ => none }
def fnExactIsBorderRow : OpenClaim := { program := "ytlmmeefcnjcceaadoor", sum := "fb4d64ae000c2d9206897a5bb2ecc47c10ce77ee5fe9593c3e972ff960bba356", func := "loop.example/g01165/laws.FnExactIsBorder", spec := "fnExactIsBorder", inPlace := ["internal/bytealg.IndexByteString"], named := ["loop.example/g01165/impl.moves"], plainKeys := false, apart := false, laid := [("loop.example/g01165/impl.moves", laid_loop_example_g01165_impl_moves)] }
def FnExactIsBorderSaid : Prop := fnExactIsBorderRow.holds Tryd.pinned (OpenSpec.ofChange fnExactIsBorderSpec)

/-- ITS FALSE NEIGHBOUR: 'it returns false'. Refute it at one input. -/
def fnExactIsBorderWrong : ChangeSpec := { name := "fnExactIsBorder", vars := ["loop.example/g01165/impl.moves"], fn := fun _ => fun
  | [d, g1] => { results := [.lit (.bool false)], args := [d], vars := [g1] }
  | _ => none }
def FnExactIsBorderWrongFalsely : Prop := fnExactIsBorderRow.holds Tryd.pinned (OpenSpec.ofChange fnExactIsBorderWrong)

/-- 'laws.FnExactSignedArea': WHATEVER THE INPUT: true; the input reads as it did. -/
def fnExactSignedAreaSpec : ChangeSpec := { name := "fnExactSignedArea", vars := ["loop.example/g01165/impl.moves"], fn := fun _ => fun
  | [d, g1] => { results := [.lit (.bool true)], args := [d], vars := [g1] }
  | _ => none }
def fnExactSignedAreaRow : OpenClaim := { program := "ytlmmeefcnjcceaadoor", sum := "fb4d64ae000c2d9206897a5bb2ecc47c10ce77ee5fe9593c3e972ff960bba356", func := "loop.example/g01165/laws.FnExactSignedArea", spec := "fnExactSignedArea", inPlace := ["internal/bytealg.IndexByteString"], named := ["loop.example/g01165/impl.moves"], plainKeys := false, apart := false, laid := [("loop.example/g01165/impl.moves", laid_loop_example_g01165_impl_moves)] }
def FnExactSignedAreaSaid : Prop := fnExactSignedAreaRow.holds Tryd.pinned (OpenSpec.ofChange fnExactSignedAreaSpec)

/-- ITS FALSE NEIGHBOUR: 'it returns false'. Refute it at one input. -/
def fnExactSignedAreaWrong : ChangeSpec := { name := "fnExactSignedArea", vars := ["loop.example/g01165/impl.moves"], fn := fun _ => fun
  | [d, g1] => { results := [.lit (.bool false)], args := [d], vars := [g1] }
  | _ => none }
def FnExactSignedAreaWrongFalsely : Prop := fnExactSignedAreaRow.holds Tryd.pinned (OpenSpec.ofChange fnExactSignedAreaWrong)

/-- 'laws.FnExactTurningOf': WHATEVER THE INPUT: true; the input reads as it did. -/
def fnExactTurningOfSpec : ChangeSpec := { name := "fnExactTurningOf", vars := ["loop.example/g01165/impl.moves"], fn := fun _ => fun
  | [d, g1] => { results := [.lit (.bool true)], args := [d], vars := [g1] }
  | _ => none }
def fnExactTurningOfRow : OpenClaim := { program := "ytlmmeefcnjcceaadoor", sum := "fb4d64ae000c2d9206897a5bb2ecc47c10ce77ee5fe9593c3e972ff960bba356", func := "loop.example/g01165/laws.FnExactTurningOf", spec := "fnExactTurningOf", inPlace := ["internal/bytealg.IndexByteString"], named := ["loop.example/g01165/impl.moves"], plainKeys := false, apart := false, laid := [("loop.example/g01165/impl.moves", laid_loop_example_g01165_impl_moves)] }
def FnExactTurningOfSaid : Prop := fnExactTurningOfRow.holds Tryd.pinned (OpenSpec.ofChange fnExactTurningOfSpec)

/-- ITS FALSE NEIGHBOUR: 'it returns false'. Refute it at one input. -/
def fnExactTurningOfWrong : ChangeSpec := { name := "fnExactTurningOf", vars := ["loop.example/g01165/impl.moves"], fn := fun _ => fun
  | [d, g1] => { results := [.lit (.bool false)], args := [d], vars := [g1] }
  | _ => none }
def FnExactTurningOfWrongFalsely : Prop := fnExactTurningOfRow.holds Tryd.pinned (OpenSpec.ofChange fnExactTurningOfWrong)

/-- 'laws.FnExactCornersOfBorder': WHATEVER THE INPUT: true; the input reads as it did. -/
def fnExactCornersOfBorderSpec : ChangeSpec := { name := "fnExactCornersOfBorder", vars := ["loop.example/g01165/impl.moves"], fn := fun _ => fun
  | [d, g1] => { results := [.lit (.bool true)], args := [d], vars := [g1] }
  | _ => none }
def fnExactCornersOfBorderRow : OpenClaim := { program := "ytlmmeefcnjcceaadoor", sum := "fb4d64ae000c2d9206897a5bb2ecc47c10ce77ee5fe9593c3e972ff960bba356", func := "loop.example/g01165/laws.FnExactCornersOfBorder", spec := "fnExactCornersOfBorder", inPlace := ["internal/bytealg.IndexByteString"], named := ["loop.example/g01165/impl.moves"], plainKeys := false, apart := false, laid := [("loop.example/g01165/impl.moves", laid_loop_example_g01165_impl_moves)] }
def FnExactCornersOfBorderSaid : Prop := fnExactCornersOfBorderRow.holds Tryd.pinned (OpenSpec.ofChange fnExactCornersOfBorderSpec)

/-- ITS FALSE NEIGHBOUR: 'it returns false'. Refute it at one input. -/
def fnExactCornersOfBorderWrong : ChangeSpec := { name := "fnExactCornersOfBorder", vars := ["loop.example/g01165/impl.moves"], fn := fun _ => fun
  | [d, g1] => { results := [.lit (.bool false)], args := [d], vars := [g1] }
  | _ => none }
def FnExactCornersOfBorderWrongFalsely : Prop := fnExactCornersOfBorderRow.holds Tryd.pinned (OpenSpec.ofChange fnExactCornersOfBorderWrong)

/-- 'laws.FnExactEdgeLength': WHATEVER THE INPUT: true; the input reads as it did. -/
def fnExactEdgeLengthSpec : ChangeSpec := { name := "fnExactEdgeLength", vars := ["loop.example/g01165/impl.errRowLength", "loop.example/g01165/impl.rightPixels"], fn := fun _ => fun
  | [d, g1, g2] => { results := [.lit (.bool true)], args := [d], vars := [g1, g2] }
  | _ => none }
def fnExactEdgeLengthRow : OpenClaim := { program := "ytlmmeefcnjcceaadoor", sum := "fb4d64ae000c2d9206897a5bb2ecc47c10ce77ee5fe9593c3e972ff960bba356", func := "loop.example/g01165/laws.FnExactEdgeLength", spec := "fnExactEdgeLength", unfollowed := true, recurses := true, named := ["loop.example/g01165/impl.errRowLength", "loop.example/g01165/impl.rightPixels"], ifaces := true, plainKeys := false, apart := false, laid := [("loop.example/g01165/impl.errRowLength", laid_loop_example_g01165_impl_errRowLength), ("loop.example/g01165/impl.rightPixels", laid_loop_example_g01165_impl_rightPixels)] }
def FnExactEdgeLengthSaid : Prop := fnExactEdgeLengthRow.holds Tryd.pinned (OpenSpec.ofChange fnExactEdgeLengthSpec)

/-- ITS FALSE NEIGHBOUR: 'it returns false'. Refute it at one input. -/
def fnExactEdgeLengthWrong : ChangeSpec := { name := "fnExactEdgeLength", vars := ["loop.example/g01165/impl.errRowLength", "loop.example/g01165/impl.rightPixels"], fn := fun _ => fun
  | [d, g1, g2] => { results := [.lit (.bool false)], args := [d], vars := [g1, g2] }
  | _ => none }
def FnExactEdgeLengthWrongFalsely : Prop := fnExactEdgeLengthRow.holds Tryd.pinned (OpenSpec.ofChange fnExactEdgeLengthWrong)

/-- 'laws.FnExactHullOfBorder': WHATEVER THE INPUT: true; the input reads as it did. -/
def fnExactHullOfBorderSpec : ChangeSpec := { name := "fnExactHullOfBorder", vars := ["loop.example/g01165/impl.moves"], fn := fun _ => fun
  | [d, g1] => { results := [.lit (.bool true)], args := [d], vars := [g1] }
  | _ => none }
def fnExactHullOfBorderRow : OpenClaim := { program := "ytlmmeefcnjcceaadoor", sum := "fb4d64ae000c2d9206897a5bb2ecc47c10ce77ee5fe9593c3e972ff960bba356", func := "loop.example/g01165/laws.FnExactHullOfBorder", spec := "fnExactHullOfBorder", inPlace := ["internal/bytealg.IndexByteString"], unfollowed := true, recurses := true, named := ["loop.example/g01165/impl.moves"], plainKeys := false, apart := false, laid := [("loop.example/g01165/impl.moves", laid_loop_example_g01165_impl_moves)] }
def FnExactHullOfBorderSaid : Prop := fnExactHullOfBorderRow.holds Tryd.pinned (OpenSpec.ofChange fnExactHullOfBorderSpec)

/-- ITS FALSE NEIGHBOUR: 'it returns false'. Refute it at one input. -/
def fnExactHullOfBorderWrong : ChangeSpec := { name := "fnExactHullOfBorder", vars := ["loop.example/g01165/impl.moves"], fn := fun _ => fun
  | [d, g1] => { results := [.lit (.bool false)], args := [d], vars := [g1] }
  | _ => none }
def FnExactHullOfBorderWrongFalsely : Prop := fnExactHullOfBorderRow.holds Tryd.pinned (OpenSpec.ofChange fnExactHullOfBorderWrong)

/-- 'laws.FnExactBorderFrom': WHATEVER THE INPUT: true; the input reads as it did. -/
def fnExactBorderFromSpec : ChangeSpec := { name := "fnExactBorderFrom", vars := ["loop.example/g01165/impl.moves"], fn := fun _ => fun
  | [d, g1] => { results := [.lit (.bool true)], args := [d], vars := [g1] }
  | _ => none }
def fnExactBorderFromRow : OpenClaim := { program := "ytlmmeefcnjcceaadoor", sum := "fb4d64ae000c2d9206897a5bb2ecc47c10ce77ee5fe9593c3e972ff960bba356", func := "loop.example/g01165/laws.FnExactBorderFrom", spec := "fnExactBorderFrom", inPlace := ["internal/abi.NoEscape", "internal/bytealg.MakeNoZero", "internal/bytealg.IndexByteString"], named := ["loop.example/g01165/impl.moves"], plainKeys := false, apart := false, laid := [("loop.example/g01165/impl.moves", laid_loop_example_g01165_impl_moves)] }
def FnExactBorderFromSaid : Prop := fnExactBorderFromRow.holds Tryd.pinned (OpenSpec.ofChange fnExactBorderFromSpec)

/-- ITS FALSE NEIGHBOUR: 'it returns false'. Refute it at one input. -/
def fnExactBorderFromWrong : ChangeSpec := { name := "fnExactBorderFrom", vars := ["loop.example/g01165/impl.moves"], fn := fun _ => fun
  | [d, g1] => { results := [.lit (.bool false)], args := [d], vars := [g1] }
  | _ => none }
def FnExactBorderFromWrongFalsely : Prop := fnExactBorderFromRow.holds Tryd.pinned (OpenSpec.ofChange fnExactBorderFromWrong)

/- THE SECOND FORM. 'bulk': how many values and letters a reading holds, each counted each time it is reached (what is shared counts as often as it is met; a slice's spare places count too). A statement '..UptoSaid' is the law's where the arguments, and the package variables that the reading takes, are together of bulk at most 1048576: NARROWER than '..Said'. Prove '..Said' where nothing that the law and all that it calls make is longer than what came in: it says more and counts as full. Else prove '..UptoSaid'. A law counts once. -/
mutual
def uptoBulk {H : Type} : DataW H → Nat
  | .lit (.string bytes) => bytes.length + 1
  | .lit _ => 1
  | .nil => 1
  | .ptr d => uptoBulk d + 1
  | .slice elems spare => uptoBulkAll elems + uptoBulkAll spare + 1
  | .agg parts => uptoBulkAll parts + 1
  | .iface _ d => uptoBulk d + 1
  | .map entries => uptoBulkEntries entries + 1
  | .held _ => 1
def uptoBulkAll {H : Type} : List (DataW H) → Nat
  | [] => 0
  | d :: r => uptoBulk d + uptoBulkAll r
def uptoBulkEntries {H : Type} : List (Lit × DataW H) → Nat
  | [] => 0
  | x :: r => uptoBulkEntry x + uptoBulkEntries r
def uptoBulkEntry {H : Type} : Lit × DataW H → Nat
  | (.string bytes, d) => bytes.length + uptoBulk d + 1
  | (_, d) => uptoBulk d + 1
 end
def uptoSmall : (H : Type) → List (DataW H) → Bool := fun _ ds => decide (uptoBulkAll ds ≤ 1048576)
def OpenSpec.upto (s : _root_.Go.ChangeSpec) : _root_.Go.OpenSpec := { _root_.Go.OpenSpec.ofChange s with cond := some uptoSmall }

/-- 'laws.FnExactIsBorder', WHERE WHAT IT READS IS OF BULK AT MOST 1048576: true; the input reads as it did. -/
def fnExactIsBorderUptoRow : OpenClaim := { program := "ytlmmeefcnjcceaadoor", sum := "fb4d64ae000c2d9206897a5bb2ecc47c10ce77ee5fe9593c3e972ff960bba356", func := "loop.example/g01165/laws.FnExactIsBorder", spec := "fnExactIsBorder", inPlace := ["internal/bytealg.IndexByteString"], named := ["loop.example/g01165/impl.moves"], plainKeys := false, apart := false, laid := [("loop.example/g01165/impl.moves", laid_loop_example_g01165_impl_moves)], narrowed := true }
def FnExactIsBorderUptoSaid : Prop := fnExactIsBorderUptoRow.holds Tryd.pinned (OpenSpec.upto fnExactIsBorderSpec)

/-- 'laws.FnExactSignedArea', WHERE WHAT IT READS IS OF BULK AT MOST 1048576: true; the input reads as it did. -/
def fnExactSignedAreaUptoRow : OpenClaim := { program := "ytlmmeefcnjcceaadoor", sum := "fb4d64ae000c2d9206897a5bb2ecc47c10ce77ee5fe9593c3e972ff960bba356", func := "loop.example/g01165/laws.FnExactSignedArea", spec := "fnExactSignedArea", inPlace := ["internal/bytealg.IndexByteString"], named := ["loop.example/g01165/impl.moves"], plainKeys := false, apart := false, laid := [("loop.example/g01165/impl.moves", laid_loop_example_g01165_impl_moves)], narrowed := true }
def FnExactSignedAreaUptoSaid : Prop := fnExactSignedAreaUptoRow.holds Tryd.pinned (OpenSpec.upto fnExactSignedAreaSpec)

/-- 'laws.FnExactTurningOf', WHERE WHAT IT READS IS OF BULK AT MOST 1048576: true; the input reads as it did. -/
def fnExactTurningOfUptoRow : OpenClaim := { program := "ytlmmeefcnjcceaadoor", sum := "fb4d64ae000c2d9206897a5bb2ecc47c10ce77ee5fe9593c3e972ff960bba356", func := "loop.example/g01165/laws.FnExactTurningOf", spec := "fnExactTurningOf", inPlace := ["internal/bytealg.IndexByteString"], named := ["loop.example/g01165/impl.moves"], plainKeys := false, apart := false, laid := [("loop.example/g01165/impl.moves", laid_loop_example_g01165_impl_moves)], narrowed := true }
def FnExactTurningOfUptoSaid : Prop := fnExactTurningOfUptoRow.holds Tryd.pinned (OpenSpec.upto fnExactTurningOfSpec)

/-- 'laws.FnExactCornersOfBorder', WHERE WHAT IT READS IS OF BULK AT MOST 1048576: true; the input reads as it did. -/
def fnExactCornersOfBorderUptoRow : OpenClaim := { program := "ytlmmeefcnjcceaadoor", sum := "fb4d64ae000c2d9206897a5bb2ecc47c10ce77ee5fe9593c3e972ff960bba356", func := "loop.example/g01165/laws.FnExactCornersOfBorder", spec := "fnExactCornersOfBorder", inPlace := ["internal/bytealg.IndexByteString"], named := ["loop.example/g01165/impl.moves"], plainKeys := false, apart := false, laid := [("loop.example/g01165/impl.moves", laid_loop_example_g01165_impl_moves)], narrowed := true }
def FnExactCornersOfBorderUptoSaid : Prop := fnExactCornersOfBorderUptoRow.holds Tryd.pinned (OpenSpec.upto fnExactCornersOfBorderSpec)

/-- 'laws.FnExactEdgeLength', WHERE WHAT IT READS IS OF BULK AT MOST 1048576: true; the input reads as it did. -/
def fnExactEdgeLengthUptoRow : OpenClaim := { program := "ytlmmeefcnjcceaadoor", sum := "fb4d64ae000c2d9206897a5bb2ecc47c10ce77ee5fe9593c3e972ff960bba356", func := "loop.example/g01165/laws.FnExactEdgeLength", spec := "fnExactEdgeLength", unfollowed := true, recurses := true, named := ["loop.example/g01165/impl.errRowLength", "loop.example/g01165/impl.rightPixels"], ifaces := true, plainKeys := false, apart := false, laid := [("loop.example/g01165/impl.errRowLength", laid_loop_example_g01165_impl_errRowLength), ("loop.example/g01165/impl.rightPixels", laid_loop_example_g01165_impl_rightPixels)], narrowed := true }
def FnExactEdgeLengthUptoSaid : Prop := fnExactEdgeLengthUptoRow.holds Tryd.pinned (OpenSpec.upto fnExactEdgeLengthSpec)

/-- 'laws.FnExactHullOfBorder', WHERE WHAT IT READS IS OF BULK AT MOST 1048576: true; the input reads as it did. -/
def fnExactHullOfBorderUptoRow : OpenClaim := { program := "ytlmmeefcnjcceaadoor", sum := "fb4d64ae000c2d9206897a5bb2ecc47c10ce77ee5fe9593c3e972ff960bba356", func := "loop.example/g01165/laws.FnExactHullOfBorder", spec := "fnExactHullOfBorder", inPlace := ["internal/bytealg.IndexByteString"], unfollowed := true, recurses := true, named := ["loop.example/g01165/impl.moves"], plainKeys := false, apart := false, laid := [("loop.example/g01165/impl.moves", laid_loop_example_g01165_impl_moves)], narrowed := true }
def FnExactHullOfBorderUptoSaid : Prop := fnExactHullOfBorderUptoRow.holds Tryd.pinned (OpenSpec.upto fnExactHullOfBorderSpec)

/-- 'laws.FnExactBorderFrom', WHERE WHAT IT READS IS OF BULK AT MOST 1048576: true; the input reads as it did. -/
def fnExactBorderFromUptoRow : OpenClaim := { program := "ytlmmeefcnjcceaadoor", sum := "fb4d64ae000c2d9206897a5bb2ecc47c10ce77ee5fe9593c3e972ff960bba356", func := "loop.example/g01165/laws.FnExactBorderFrom", spec := "fnExactBorderFrom", inPlace := ["internal/abi.NoEscape", "internal/bytealg.MakeNoZero", "internal/bytealg.IndexByteString"], named := ["loop.example/g01165/impl.moves"], plainKeys := false, apart := false, laid := [("loop.example/g01165/impl.moves", laid_loop_example_g01165_impl_moves)], narrowed := true }
def FnExactBorderFromUptoSaid : Prop := fnExactBorderFromUptoRow.holds Tryd.pinned (OpenSpec.upto fnExactBorderFromSpec)

end Rows
end Go.Proofs.YtlmmeefcnjcceaaDoor
