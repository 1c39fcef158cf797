/-
  NARROWER THAN 'FOR EVERY INPUT', by the rows' own cells (each row's printed sentence says how): FnCurves: ifaces, laid · FnIntervals: ifaces, laid · FnFitting: ifaces, laid · FnJoins: ifaces, laid · FnOpenings: ifaces, laid · FnExactPictureFromRuns: ifaces, laid.
  DERIVED. THE GIVEN ROWS OF THIS SEAT. 6 by the template 'for every input the law returns true; each argument reads behind the call as it read before'; 0 by the template 'total and deterministic' (their statements: YtabkkpifkkgpeaaDoorTotals.lean).
  GIVEN WITH THE SEED: the statements are not yours to turn. If you find one false, say at which input.
  Laid BY PROGRAM, IN A SANDBOX (cutbox-rows.mjs): the forced cells as the released guide's own fill.sh prints them over the translation ff508e0cbc3cb023… (all of the seat's roots in one cut). By AI agents, Wed Nov 11 2026. No macro, syntax, notation, axiom, sorry.
-/
import Derived.Test.YtabkkpifkkgpeaaDoorChecked
import GoSem.Claim
import GoSem.ClaimJoined
import GoSem.ClaimMapViews
import Derived.JoinedTies
import Derived.KernelRfl
namespace Go.Proofs.YtabkkpifkkgpeaaDoor
/- THE CELL 'sum', in the pinned program and in every row, IS THE sha256 OF THE DUMP (.gsa) THAT YtabkkpifkkgpeaaDoorProg.lean LOADS. Nothing in Lean hashes anything: it is a label: what it is worth is what the hold of that sum in a sandbox is worth. -/
noncomputable def Tryd.pinned : Pinned := { name := "ytabkkpifkkgpeaadoor", sum := "ff508e0cbc3cb02326127aea1821add6c7679dee5ebd5175b2daf157e77774e8", checked := Tryd.checked }
namespace Rows
def none {H : Type} : Left H := { results := [], args := [] }

/- WHAT THE LISTED PACKAGE-LEVEL VARIABLES READ AS WHEN THE CALL BEGINS. Each datum BY PROGRAM (the guide's laid-datum.mjs) off the statement by which the dump's own 'gosem.cut.vars' lays the variable. In a bare row this is a premise. The card (YtabkkpifkkgpeaaDoorCards.lean) ties it to the program's text. -/
def laid_loop_example_g01165_impl_errNoResult {H : Type} : DataW H := .iface "*errors.errorString" (.ptr (.agg [.lit (.string [116, 104, 101, 32, 114, 101, 115, 117, 108, 116, 32, 100, 111, 101, 115, 32, 110, 111, 116, 32, 101, 120, 105, 115, 116])]))
def laid_loop_example_g01165_impl_quarterVisits {H : Type} : DataW H := .agg [.agg [.agg [.agg [.lit (.int .i64 0), .lit (.int .i64 0)], .lit (.int .i64 0)], .agg [.agg [.lit (.int .i64 1), .lit (.int .i64 0)], .lit (.int .i64 0)], .agg [.agg [.lit (.int .i64 0), .lit (.int .i64 1)], .lit (.int .i64 0)], .agg [.agg [.lit (.int .i64 1), .lit (.int .i64 1)], .lit (.int .i64 0)]], .agg [.agg [.agg [.lit (.int .i64 0), .lit (.int .i64 0)], .lit (.int .i64 2)], .agg [.agg [.lit (.int .i64 0), .lit (.int .i64 1)], .lit (.int .i64 1)], .agg [.agg [.lit (.int .i64 1), .lit (.int .i64 1)], .lit (.int .i64 1)], .agg [.agg [.lit (.int .i64 1), .lit (.int .i64 0)], .lit (.int .i64 3)]], .agg [.agg [.agg [.lit (.int .i64 0), .lit (.int .i64 0)], .lit (.int .i64 1)], .agg [.agg [.lit (.int .i64 1), .lit (.int .i64 0)], .lit (.int .i64 2)], .agg [.agg [.lit (.int .i64 1), .lit (.int .i64 1)], .lit (.int .i64 2)], .agg [.agg [.lit (.int .i64 0), .lit (.int .i64 1)], .lit (.int .i64 4)]], .agg [.agg [.agg [.lit (.int .i64 1), .lit (.int .i64 1)], .lit (.int .i64 4)], .agg [.agg [.lit (.int .i64 0), .lit (.int .i64 1)], .lit (.int .i64 3)], .agg [.agg [.lit (.int .i64 0), .lit (.int .i64 0)], .lit (.int .i64 3)], .agg [.agg [.lit (.int .i64 1), .lit (.int .i64 0)], .lit (.int .i64 1)]], .agg [.agg [.agg [.lit (.int .i64 1), .lit (.int .i64 1)], .lit (.int .i64 3)], .agg [.agg [.lit (.int .i64 1), .lit (.int .i64 0)], .lit (.int .i64 4)], .agg [.agg [.lit (.int .i64 0), .lit (.int .i64 0)], .lit (.int .i64 4)], .agg [.agg [.lit (.int .i64 0), .lit (.int .i64 1)], .lit (.int .i64 2)]]]
def laid_bytes_ErrTooLarge {H : Type} : DataW H := .iface "*errors.errorString" (.ptr (.agg [.lit (.string [98, 121, 116, 101, 115, 46, 66, 117, 102, 102, 101, 114, 58, 32, 116, 111, 111, 32, 108, 97, 114, 103, 101])]))
def laid_loop_example_g01165_impl_errRowLength {H : Type} : DataW H := .iface "*errors.errorString" (.ptr (.agg [.lit (.string [97, 32, 114, 111, 119, 32, 104, 97, 115, 32, 110, 111, 32, 112, 105, 120, 101, 108, 115, 44, 32, 111, 114, 32, 116, 111, 111, 32, 109, 97, 110, 121])]))

/-- 'laws.FnCurves': WHATEVER THE INPUT: true; the input reads as it did. -/
def fnCurvesSpec : ChangeSpec := { name := "fnCurves", vars := ["loop.example/g01165/impl.errNoResult", "loop.example/g01165/impl.quarterVisits"], fn := fun _ => fun
  | [d1, d2, g1, g2] => { results := [.lit (.bool true)], args := [d1, d2], vars := [g1, g2] }
  | _ => none }
def fnCurvesRow : OpenClaim := { program := "ytabkkpifkkgpeaadoor", sum := "ff508e0cbc3cb02326127aea1821add6c7679dee5ebd5175b2daf157e77774e8", func := "loop.example/g01165/laws.FnCurves", spec := "fnCurves", unfollowed := true, recurses := true, named := ["loop.example/g01165/impl.errNoResult", "loop.example/g01165/impl.quarterVisits"], ifaces := true, plainKeys := false, apart := false, laid := [("loop.example/g01165/impl.errNoResult", laid_loop_example_g01165_impl_errNoResult), ("loop.example/g01165/impl.quarterVisits", laid_loop_example_g01165_impl_quarterVisits)] }
def FnCurvesSaid : Prop := fnCurvesRow.holds Tryd.pinned (OpenSpec.ofChange fnCurvesSpec)

/-- ITS FALSE NEIGHBOUR: 'it returns false'. Refute it at one input. -/
def fnCurvesWrong : ChangeSpec := { name := "fnCurves", vars := ["loop.example/g01165/impl.errNoResult", "loop.example/g01165/impl.quarterVisits"], fn := fun _ => fun
  | [d1, d2, g1, g2] => { results := [.lit (.bool false)], args := [d1, d2], vars := [g1, g2] }
  | _ => none }
def FnCurvesWrongFalsely : Prop := fnCurvesRow.holds Tryd.pinned (OpenSpec.ofChange fnCurvesWrong)

/-- 'laws.FnIntervals': WHATEVER THE INPUT: true; the input reads as it did. -/
def fnIntervalsSpec : ChangeSpec := { name := "fnIntervals", vars := ["loop.example/g01165/impl.errNoResult", "loop.example/g01165/impl.quarterVisits"], fn := fun _ => fun
  | [d1, d2, g1, g2] => { results := [.lit (.bool true)], args := [d1, d2], vars := [g1, g2] }
  | _ => none }
def fnIntervalsRow : OpenClaim := { program := "ytabkkpifkkgpeaadoor", sum := "ff508e0cbc3cb02326127aea1821add6c7679dee5ebd5175b2daf157e77774e8", func := "loop.example/g01165/laws.FnIntervals", spec := "fnIntervals", unfollowed := true, recurses := true, named := ["loop.example/g01165/impl.errNoResult", "loop.example/g01165/impl.quarterVisits"], ifaces := true, plainKeys := false, apart := false, laid := [("loop.example/g01165/impl.errNoResult", laid_loop_example_g01165_impl_errNoResult), ("loop.example/g01165/impl.quarterVisits", laid_loop_example_g01165_impl_quarterVisits)] }
def FnIntervalsSaid : Prop := fnIntervalsRow.holds Tryd.pinned (OpenSpec.ofChange fnIntervalsSpec)

/-- ITS FALSE NEIGHBOUR: 'it returns false'. Refute it at one input. -/
def fnIntervalsWrong : ChangeSpec := { name := "fnIntervals", vars := ["loop.example/g01165/impl.errNoResult", "loop.example/g01165/impl.quarterVisits"], fn := fun _ => fun
  | [d1, d2, g1, g2] => { results := [.lit (.bool false)], args := [d1, d2], vars := [g1, g2] }
  | _ => none }
def FnIntervalsWrongFalsely : Prop := fnIntervalsRow.holds Tryd.pinned (OpenSpec.ofChange fnIntervalsWrong)

/-- 'laws.FnFitting': WHATEVER THE INPUT: true; the input reads as it did. -/
def fnFittingSpec : ChangeSpec := { name := "fnFitting", vars := ["loop.example/g01165/impl.errRowLength"], fn := fun _ => fun
  | [d1, d2, g1] => { results := [.lit (.bool true)], args := [d1, d2], vars := [g1] }
  | _ => none }
def fnFittingRow : OpenClaim := { program := "ytabkkpifkkgpeaadoor", sum := "ff508e0cbc3cb02326127aea1821add6c7679dee5ebd5175b2daf157e77774e8", func := "loop.example/g01165/laws.FnFitting", spec := "fnFitting", unfollowed := true, recurses := true, named := ["loop.example/g01165/impl.errRowLength", "bytes.ErrTooLarge"], ifaces := true, plainKeys := false, apart := false, laid := [("bytes.ErrTooLarge", laid_bytes_ErrTooLarge), ("loop.example/g01165/impl.errRowLength", laid_loop_example_g01165_impl_errRowLength)] }
def FnFittingSaid : Prop := fnFittingRow.holds Tryd.pinned (OpenSpec.ofChange fnFittingSpec)

/-- ITS FALSE NEIGHBOUR: 'it returns false'. Refute it at one input. -/
def fnFittingWrong : ChangeSpec := { name := "fnFitting", vars := ["loop.example/g01165/impl.errRowLength"], fn := fun _ => fun
  | [d1, d2, g1] => { results := [.lit (.bool false)], args := [d1, d2], vars := [g1] }
  | _ => none }
def FnFittingWrongFalsely : Prop := fnFittingRow.holds Tryd.pinned (OpenSpec.ofChange fnFittingWrong)

/-- 'laws.FnJoins': WHATEVER THE INPUT: true; the input reads as it did. -/
def fnJoinsSpec : ChangeSpec := { name := "fnJoins", vars := ["loop.example/g01165/impl.errRowLength"], fn := fun _ => fun
  | [d1, d2, g1] => { results := [.lit (.bool true)], args := [d1, d2], vars := [g1] }
  | _ => none }
def fnJoinsRow : OpenClaim := { program := "ytabkkpifkkgpeaadoor", sum := "ff508e0cbc3cb02326127aea1821add6c7679dee5ebd5175b2daf157e77774e8", func := "loop.example/g01165/laws.FnJoins", spec := "fnJoins", named := ["loop.example/g01165/impl.errRowLength", "bytes.ErrTooLarge"], ifaces := true, plainKeys := false, apart := false, laid := [("bytes.ErrTooLarge", laid_bytes_ErrTooLarge), ("loop.example/g01165/impl.errRowLength", laid_loop_example_g01165_impl_errRowLength)] }
def FnJoinsSaid : Prop := fnJoinsRow.holds Tryd.pinned (OpenSpec.ofChange fnJoinsSpec)

/-- ITS FALSE NEIGHBOUR: 'it returns false'. Refute it at one input. -/
def fnJoinsWrong : ChangeSpec := { name := "fnJoins", vars := ["loop.example/g01165/impl.errRowLength"], fn := fun _ => fun
  | [d1, d2, g1] => { results := [.lit (.bool false)], args := [d1, d2], vars := [g1] }
  | _ => none }
def FnJoinsWrongFalsely : Prop := fnJoinsRow.holds Tryd.pinned (OpenSpec.ofChange fnJoinsWrong)

/-- 'laws.FnOpenings': WHATEVER THE INPUT: true; the input reads as it did. -/
def fnOpeningsSpec : ChangeSpec := { name := "fnOpenings", vars := ["loop.example/g01165/impl.errRowLength"], fn := fun _ => fun
  | [d1, d2, g1] => { results := [.lit (.bool true)], args := [d1, d2], vars := [g1] }
  | _ => none }
def fnOpeningsRow : OpenClaim := { program := "ytabkkpifkkgpeaadoor", sum := "ff508e0cbc3cb02326127aea1821add6c7679dee5ebd5175b2daf157e77774e8", func := "loop.example/g01165/laws.FnOpenings", spec := "fnOpenings", unfollowed := true, recurses := true, named := ["loop.example/g01165/impl.errRowLength", "bytes.ErrTooLarge"], ifaces := true, plainKeys := false, apart := false, laid := [("bytes.ErrTooLarge", laid_bytes_ErrTooLarge), ("loop.example/g01165/impl.errRowLength", laid_loop_example_g01165_impl_errRowLength)] }
def FnOpeningsSaid : Prop := fnOpeningsRow.holds Tryd.pinned (OpenSpec.ofChange fnOpeningsSpec)

/-- ITS FALSE NEIGHBOUR: 'it returns false'. Refute it at one input. -/
def fnOpeningsWrong : ChangeSpec := { name := "fnOpenings", vars := ["loop.example/g01165/impl.errRowLength"], fn := fun _ => fun
  | [d1, d2, g1] => { results := [.lit (.bool false)], args := [d1, d2], vars := [g1] }
  | _ => none }
def FnOpeningsWrongFalsely : Prop := fnOpeningsRow.holds Tryd.pinned (OpenSpec.ofChange fnOpeningsWrong)

/-- 'laws.FnExactPictureFromRuns': WHATEVER THE INPUT: true; the input reads as it did. -/
def fnExactPictureFromRunsSpec : ChangeSpec := { name := "fnExactPictureFromRuns", vars := ["loop.example/g01165/impl.errNoResult", "loop.example/g01165/impl.quarterVisits"], fn := fun _ => fun
  | [d1, d2, d3, g1, g2] => { results := [.lit (.bool true)], args := [d1, d2, d3], vars := [g1, g2] }
  | _ => none }
def fnExactPictureFromRunsRow : OpenClaim := { program := "ytabkkpifkkgpeaadoor", sum := "ff508e0cbc3cb02326127aea1821add6c7679dee5ebd5175b2daf157e77774e8", func := "loop.example/g01165/laws.FnExactPictureFromRuns", spec := "fnExactPictureFromRuns", unfollowed := true, recurses := true, named := ["loop.example/g01165/impl.errNoResult", "loop.example/g01165/impl.quarterVisits", "bytes.ErrTooLarge"], ifaces := true, plainKeys := false, apart := false, laid := [("bytes.ErrTooLarge", laid_bytes_ErrTooLarge), ("loop.example/g01165/impl.errNoResult", laid_loop_example_g01165_impl_errNoResult), ("loop.example/g01165/impl.quarterVisits", laid_loop_example_g01165_impl_quarterVisits)] }
def FnExactPictureFromRunsSaid : Prop := fnExactPictureFromRunsRow.holds Tryd.pinned (OpenSpec.ofChange fnExactPictureFromRunsSpec)

/-- ITS FALSE NEIGHBOUR: 'it returns false'. Refute it at one input. -/
def fnExactPictureFromRunsWrong : ChangeSpec := { name := "fnExactPictureFromRuns", vars := ["loop.example/g01165/impl.errNoResult", "loop.example/g01165/impl.quarterVisits"], fn := fun _ => fun
  | [d1, d2, d3, g1, g2] => { results := [.lit (.bool false)], args := [d1, d2, d3], vars := [g1, g2] }
  | _ => none }
def FnExactPictureFromRunsWrongFalsely : Prop := fnExactPictureFromRunsRow.holds Tryd.pinned (OpenSpec.ofChange fnExactPictureFromRunsWrong)

/- THE SECOND FORM. 'bulk': how many values and letters a reading holds, each counted each time it is reached (what is shared counts as often as it is met; a slice's spare places count too). A statement '..UptoSaid' is the law's where the arguments, and the package variables that the reading takes, are together of bulk at most 1048576: NARROWER than '..Said'. Prove '..Said' where nothing that the law and all that it calls make is longer than what came in: it says more and counts as full. Else prove '..UptoSaid'. A law counts once. -/
mutual
def uptoBulk {H : Type} : DataW H → Nat
  | .lit (.string bytes) => bytes.length + 1
  | .lit _ => 1
  | .nil => 1
  | .ptr d => uptoBulk d + 1
  | .slice elems spare => uptoBulkAll elems + uptoBulkAll spare + 1
  | .agg parts => uptoBulkAll parts + 1
  | .iface _ d => uptoBulk d + 1
  | .map entries => uptoBulkEntries entries + 1
  | .held _ => 1
def uptoBulkAll {H : Type} : List (DataW H) → Nat
  | [] => 0
  | d :: r => uptoBulk d + uptoBulkAll r
def uptoBulkEntries {H : Type} : List (Lit × DataW H) → Nat
  | [] => 0
  | x :: r => uptoBulkEntry x + uptoBulkEntries r
def uptoBulkEntry {H : Type} : Lit × DataW H → Nat
  | (.string bytes, d) => bytes.length + uptoBulk d + 1
  | (_, d) => uptoBulk d + 1
 end
def uptoSmall : (H : Type) → List (DataW H) → Bool := fun _ ds => decide (uptoBulkAll ds ≤ 1048576)
def OpenSpec.upto (s : _root_.Go.ChangeSpec) : _root_.Go.OpenSpec := { _root_.Go.OpenSpec.ofChange s with cond := some uptoSmall }

/-- 'laws.FnCurves', WHERE WHAT IT READS IS OF BULK AT MOST 1048576: true; the input reads as it did. -/
def fnCurvesUptoRow : OpenClaim := { program := "ytabkkpifkkgpeaadoor", sum := "ff508e0cbc3cb02326127aea1821add6c7679dee5ebd5175b2daf157e77774e8", func := "loop.example/g01165/laws.FnCurves", spec := "fnCurves", unfollowed := true, recurses := true, named := ["loop.example/g01165/impl.errNoResult", "loop.example/g01165/impl.quarterVisits"], ifaces := true, plainKeys := false, apart := false, laid := [("loop.example/g01165/impl.errNoResult", laid_loop_example_g01165_impl_errNoResult), ("loop.example/g01165/impl.quarterVisits", laid_loop_example_g01165_impl_quarterVisits)], narrowed := true }
def FnCurvesUptoSaid : Prop := fnCurvesUptoRow.holds Tryd.pinned (OpenSpec.upto fnCurvesSpec)

/-- 'laws.FnIntervals', WHERE WHAT IT READS IS OF BULK AT MOST 1048576: true; the input reads as it did. -/
def fnIntervalsUptoRow : OpenClaim := { program := "ytabkkpifkkgpeaadoor", sum := "ff508e0cbc3cb02326127aea1821add6c7679dee5ebd5175b2daf157e77774e8", func := "loop.example/g01165/laws.FnIntervals", spec := "fnIntervals", unfollowed := true, recurses := true, named := ["loop.example/g01165/impl.errNoResult", "loop.example/g01165/impl.quarterVisits"], ifaces := true, plainKeys := false, apart := false, laid := [("loop.example/g01165/impl.errNoResult", laid_loop_example_g01165_impl_errNoResult), ("loop.example/g01165/impl.quarterVisits", laid_loop_example_g01165_impl_quarterVisits)], narrowed := true }
def FnIntervalsUptoSaid : Prop := fnIntervalsUptoRow.holds Tryd.pinned (OpenSpec.upto fnIntervalsSpec)

/-- 'laws.FnFitting', WHERE WHAT IT READS IS OF BULK AT MOST 1048576: true; the input reads as it did. -/
def fnFittingUptoRow : OpenClaim := { program := "ytabkkpifkkgpeaadoor", sum := "ff508e0cbc3cb02326127aea1821add6c7679dee5ebd5175b2daf157e77774e8", func := "loop.example/g01165/laws.FnFitting", spec := "fnFitting", unfollowed := true, recurses := true, named := ["loop.example/g01165/impl.errRowLength", "bytes.ErrTooLarge"], ifaces := true, plainKeys := false, apart := false, laid := [("bytes.ErrTooLarge", laid_bytes_ErrTooLarge), ("loop.example/g01165/impl.errRowLength", laid_loop_example_g01165_impl_errRowLength)], narrowed := true }
def FnFittingUptoSaid : Prop := fnFittingUptoRow.holds Tryd.pinned (OpenSpec.upto fnFittingSpec)

/-- 'laws.FnJoins', WHERE WHAT IT READS IS OF BULK AT MOST 1048576: true; the input reads as it did. -/
def fnJoinsUptoRow : OpenClaim := { program := "ytabkkpifkkgpeaadoor", sum := "ff508e0cbc3cb02326127aea1821add6c7679dee5ebd5175b2daf157e77774e8", func := "loop.example/g01165/laws.FnJoins", spec := "fnJoins", named := ["loop.example/g01165/impl.errRowLength", "bytes.ErrTooLarge"], ifaces := true, plainKeys := false, apart := false, laid := [("bytes.ErrTooLarge", laid_bytes_ErrTooLarge), ("loop.example/g01165/impl.errRowLength", laid_loop_example_g01165_impl_errRowLength)], narrowed := true }
def FnJoinsUptoSaid : Prop := fnJoinsUptoRow.holds Tryd.pinned (OpenSpec.upto fnJoinsSpec)

/-- 'laws.FnOpenings', WHERE WHAT IT READS IS OF BULK AT MOST 1048576: true; the input reads as it did. -/
def fnOpeningsUptoRow : OpenClaim := { program := "ytabkkpifkkgpeaadoor", sum := "ff508e0cbc3cb02326127aea1821add6c7679dee5ebd5175b2daf157e77774e8", func := "loop.example/g01165/laws.FnOpenings", spec := "fnOpenings", unfollowed := true, recurses := true, named := ["loop.example/g01165/impl.errRowLength", "bytes.ErrTooLarge"], ifaces := true, plainKeys := false, apart := false, laid := [("bytes.ErrTooLarge", laid_bytes_ErrTooLarge), ("loop.example/g01165/impl.errRowLength", laid_loop_example_g01165_impl_errRowLength)], narrowed := true }
def FnOpeningsUptoSaid : Prop := fnOpeningsUptoRow.holds Tryd.pinned (OpenSpec.upto fnOpeningsSpec)

/-- 'laws.FnExactPictureFromRuns', WHERE WHAT IT READS IS OF BULK AT MOST 1048576: true; the input reads as it did. -/
def fnExactPictureFromRunsUptoRow : OpenClaim := { program := "ytabkkpifkkgpeaadoor", sum := "ff508e0cbc3cb02326127aea1821add6c7679dee5ebd5175b2daf157e77774e8", func := "loop.example/g01165/laws.FnExactPictureFromRuns", spec := "fnExactPictureFromRuns", unfollowed := true, recurses := true, named := ["loop.example/g01165/impl.errNoResult", "loop.example/g01165/impl.quarterVisits", "bytes.ErrTooLarge"], ifaces := true, plainKeys := false, apart := false, laid := [("bytes.ErrTooLarge", laid_bytes_ErrTooLarge), ("loop.example/g01165/impl.errNoResult", laid_loop_example_g01165_impl_errNoResult), ("loop.example/g01165/impl.quarterVisits", laid_loop_example_g01165_impl_quarterVisits)], narrowed := true }
def FnExactPictureFromRunsUptoSaid : Prop := fnExactPictureFromRunsUptoRow.holds Tryd.pinned (OpenSpec.upto fnExactPictureFromRunsSpec)

end Rows
end Go.Proofs.YtabkkpifkkgpeaaDoor
