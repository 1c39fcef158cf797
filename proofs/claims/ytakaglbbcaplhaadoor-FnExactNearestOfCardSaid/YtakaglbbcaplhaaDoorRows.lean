/-
  NARROWER THAN 'FOR EVERY INPUT', by the rows' own cells (each row's printed sentence says how): FnExactIsSimple: ifaces, laid · FnExactComponentsOf: ifaces, laid · FnExactAreasOf: ifaces, laid · FnExactCountHoles: ifaces, laid · FnExactEulerNumber: ifaces, laid · FnExactLargestComponent: ifaces, laid · FnExactKeepComponents: ifaces, laid · FnExactFarSpots: ifaces, laid · FnExactNearestOf: ifaces, laid · FnExactGrowBy: ifaces, laid · FnExactShrinkBy: ifaces, laid · FnExactDistancesOf: ifaces, laid.
  DERIVED. THE GIVEN ROWS OF THIS SEAT. 12 by the template 'for every input the law returns true; each argument reads behind the call as it read before'; 0 by the template 'total and deterministic' (their statements: YtakaglbbcaplhaaDoorTotals.lean).
  GIVEN WITH THE SEED: the statements are not yours to turn. If you find one false, say at which input.
  Laid BY PROGRAM, IN A SANDBOX (cutbox-rows.mjs): the forced cells as the released guide's own fill.sh prints them over the translation b3346d44b63fd09e… (all of the seat's roots in one cut). By AI agents, Wed Nov 11 2026. No macro, syntax, notation, axiom, sorry.
-/
import Derived.Test.YtakaglbbcaplhaaDoorChecked
import GoSem.Claim
import GoSem.ClaimJoined
import GoSem.ClaimMapViews
import Derived.JoinedTies
import Derived.KernelRfl
namespace Go.Proofs.YtakaglbbcaplhaaDoor
/- THE CELL 'sum', in the pinned program and in every row, IS THE sha256 OF THE DUMP (.gsa) THAT YtakaglbbcaplhaaDoorProg.lean LOADS. Nothing in Lean hashes anything: it is a label: what it is worth is what the hold of that sum in a sandbox is worth. -/
noncomputable def Tryd.pinned : Pinned := { name := "ytakaglbbcaplhaadoor", sum := "b3346d44b63fd09e69849aa8249ed32288ed0de711904328eb1bcea79cced975", checked := Tryd.checked }
namespace Rows
def none {H : Type} : Left H := { results := [], args := [] }

/- WHAT THE LISTED PACKAGE-LEVEL VARIABLES READ AS WHEN THE CALL BEGINS. Each datum BY PROGRAM (the guide's laid-datum.mjs) off the statement by which the dump's own 'gosem.cut.vars' lays the variable. In a bare row this is a premise. The card (YtakaglbbcaplhaaDoorCards.lean) ties it to the program's text. -/
def laid_loop_example_g01165_impl_errRowLength {H : Type} : DataW H := .iface "*errors.errorString" (.ptr (.agg [.lit (.string [97, 32, 114, 111, 119, 32, 104, 97, 115, 32, 110, 111, 32, 112, 105, 120, 101, 108, 115, 44, 32, 111, 114, 32, 116, 111, 111, 32, 109, 97, 110, 121])]))
def laid_loop_example_g01165_impl_ringOffsets {H : Type} : DataW H := .agg [.agg [.lit (.int .i64 1), .lit (.int .i64 0)], .agg [.lit (.int .i64 1), .lit (.int .i64 1)], .agg [.lit (.int .i64 0), .lit (.int .i64 1)], .agg [.lit (.int .i64 (-1)), .lit (.int .i64 1)], .agg [.lit (.int .i64 (-1)), .lit (.int .i64 0)], .agg [.lit (.int .i64 (-1)), .lit (.int .i64 (-1))], .agg [.lit (.int .i64 0), .lit (.int .i64 (-1))], .agg [.lit (.int .i64 1), .lit (.int .i64 (-1))]]
def laid_loop_example_g01165_impl_errNoResult {H : Type} : DataW H := .iface "*errors.errorString" (.ptr (.agg [.lit (.string [116, 104, 101, 32, 114, 101, 115, 117, 108, 116, 32, 100, 111, 101, 115, 32, 110, 111, 116, 32, 101, 120, 105, 115, 116])]))
def laid_bytes_ErrTooLarge {H : Type} : DataW H := .iface "*errors.errorString" (.ptr (.agg [.lit (.string [98, 121, 116, 101, 115, 46, 66, 117, 102, 102, 101, 114, 58, 32, 116, 111, 111, 32, 108, 97, 114, 103, 101])]))

/-- 'laws.FnExactIsSimple': WHATEVER THE INPUT: true; the input reads as it did. -/
def fnExactIsSimpleSpec : ChangeSpec := { name := "fnExactIsSimple", vars := ["loop.example/g01165/impl.errRowLength", "loop.example/g01165/impl.ringOffsets"], fn := fun _ => fun
  | [d1, d2, d3, g1, g2] => { results := [.lit (.bool true)], args := [d1, d2, d3], vars := [g1, g2] }
  | _ => none }
def fnExactIsSimpleRow : OpenClaim := { program := "ytakaglbbcaplhaadoor", sum := "b3346d44b63fd09e69849aa8249ed32288ed0de711904328eb1bcea79cced975", func := "loop.example/g01165/laws.FnExactIsSimple", spec := "fnExactIsSimple", named := ["loop.example/g01165/impl.errRowLength", "loop.example/g01165/impl.ringOffsets"], ifaces := true, apart := false, laid := [("loop.example/g01165/impl.errRowLength", laid_loop_example_g01165_impl_errRowLength), ("loop.example/g01165/impl.ringOffsets", laid_loop_example_g01165_impl_ringOffsets)] }
def FnExactIsSimpleSaid : Prop := fnExactIsSimpleRow.holds Tryd.pinned (OpenSpec.ofChange fnExactIsSimpleSpec)

/-- ITS FALSE NEIGHBOUR: 'it returns false'. Refute it at one input. -/
def fnExactIsSimpleWrong : ChangeSpec := { name := "fnExactIsSimple", vars := ["loop.example/g01165/impl.errRowLength", "loop.example/g01165/impl.ringOffsets"], fn := fun _ => fun
  | [d1, d2, d3, g1, g2] => { results := [.lit (.bool false)], args := [d1, d2, d3], vars := [g1, g2] }
  | _ => none }
def FnExactIsSimpleWrongFalsely : Prop := fnExactIsSimpleRow.holds Tryd.pinned (OpenSpec.ofChange fnExactIsSimpleWrong)

/-- 'laws.FnExactComponentsOf': WHATEVER THE INPUT: true; the input reads as it did. -/
def fnExactComponentsOfSpec : ChangeSpec := { name := "fnExactComponentsOf", vars := ["loop.example/g01165/impl.errRowLength", "loop.example/g01165/impl.errNoResult"], fn := fun _ => fun
  | [d1, d2, g1, g2] => { results := [.lit (.bool true)], args := [d1, d2], vars := [g1, g2] }
  | _ => none }
def fnExactComponentsOfRow : OpenClaim := { program := "ytakaglbbcaplhaadoor", sum := "b3346d44b63fd09e69849aa8249ed32288ed0de711904328eb1bcea79cced975", func := "loop.example/g01165/laws.FnExactComponentsOf", spec := "fnExactComponentsOf", unfollowed := true, recurses := true, named := ["loop.example/g01165/impl.errRowLength", "loop.example/g01165/impl.errNoResult"], ifaces := true, apart := false, laid := [("loop.example/g01165/impl.errRowLength", laid_loop_example_g01165_impl_errRowLength), ("loop.example/g01165/impl.errNoResult", laid_loop_example_g01165_impl_errNoResult)] }
def FnExactComponentsOfSaid : Prop := fnExactComponentsOfRow.holds Tryd.pinned (OpenSpec.ofChange fnExactComponentsOfSpec)

/-- ITS FALSE NEIGHBOUR: 'it returns false'. Refute it at one input. -/
def fnExactComponentsOfWrong : ChangeSpec := { name := "fnExactComponentsOf", vars := ["loop.example/g01165/impl.errRowLength", "loop.example/g01165/impl.errNoResult"], fn := fun _ => fun
  | [d1, d2, g1, g2] => { results := [.lit (.bool false)], args := [d1, d2], vars := [g1, g2] }
  | _ => none }
def FnExactComponentsOfWrongFalsely : Prop := fnExactComponentsOfRow.holds Tryd.pinned (OpenSpec.ofChange fnExactComponentsOfWrong)

/-- 'laws.FnExactAreasOf': WHATEVER THE INPUT: true; the input reads as it did. -/
def fnExactAreasOfSpec : ChangeSpec := { name := "fnExactAreasOf", vars := ["loop.example/g01165/impl.errRowLength", "loop.example/g01165/impl.errNoResult"], fn := fun _ => fun
  | [d1, d2, g1, g2] => { results := [.lit (.bool true)], args := [d1, d2], vars := [g1, g2] }
  | _ => none }
def fnExactAreasOfRow : OpenClaim := { program := "ytakaglbbcaplhaadoor", sum := "b3346d44b63fd09e69849aa8249ed32288ed0de711904328eb1bcea79cced975", func := "loop.example/g01165/laws.FnExactAreasOf", spec := "fnExactAreasOf", unfollowed := true, recurses := true, named := ["loop.example/g01165/impl.errRowLength", "loop.example/g01165/impl.errNoResult"], ifaces := true, apart := false, laid := [("loop.example/g01165/impl.errRowLength", laid_loop_example_g01165_impl_errRowLength), ("loop.example/g01165/impl.errNoResult", laid_loop_example_g01165_impl_errNoResult)] }
def FnExactAreasOfSaid : Prop := fnExactAreasOfRow.holds Tryd.pinned (OpenSpec.ofChange fnExactAreasOfSpec)

/-- ITS FALSE NEIGHBOUR: 'it returns false'. Refute it at one input. -/
def fnExactAreasOfWrong : ChangeSpec := { name := "fnExactAreasOf", vars := ["loop.example/g01165/impl.errRowLength", "loop.example/g01165/impl.errNoResult"], fn := fun _ => fun
  | [d1, d2, g1, g2] => { results := [.lit (.bool false)], args := [d1, d2], vars := [g1, g2] }
  | _ => none }
def FnExactAreasOfWrongFalsely : Prop := fnExactAreasOfRow.holds Tryd.pinned (OpenSpec.ofChange fnExactAreasOfWrong)

/-- 'laws.FnExactCountHoles': WHATEVER THE INPUT: true; the input reads as it did. -/
def fnExactCountHolesSpec : ChangeSpec := { name := "fnExactCountHoles", vars := ["loop.example/g01165/impl.errRowLength", "loop.example/g01165/impl.errNoResult"], fn := fun _ => fun
  | [d1, d2, g1, g2] => { results := [.lit (.bool true)], args := [d1, d2], vars := [g1, g2] }
  | _ => none }
def fnExactCountHolesRow : OpenClaim := { program := "ytakaglbbcaplhaadoor", sum := "b3346d44b63fd09e69849aa8249ed32288ed0de711904328eb1bcea79cced975", func := "loop.example/g01165/laws.FnExactCountHoles", spec := "fnExactCountHoles", unfollowed := true, recurses := true, named := ["loop.example/g01165/impl.errRowLength", "loop.example/g01165/impl.errNoResult"], ifaces := true, apart := false, laid := [("loop.example/g01165/impl.errRowLength", laid_loop_example_g01165_impl_errRowLength), ("loop.example/g01165/impl.errNoResult", laid_loop_example_g01165_impl_errNoResult)] }
def FnExactCountHolesSaid : Prop := fnExactCountHolesRow.holds Tryd.pinned (OpenSpec.ofChange fnExactCountHolesSpec)

/-- ITS FALSE NEIGHBOUR: 'it returns false'. Refute it at one input. -/
def fnExactCountHolesWrong : ChangeSpec := { name := "fnExactCountHoles", vars := ["loop.example/g01165/impl.errRowLength", "loop.example/g01165/impl.errNoResult"], fn := fun _ => fun
  | [d1, d2, g1, g2] => { results := [.lit (.bool false)], args := [d1, d2], vars := [g1, g2] }
  | _ => none }
def FnExactCountHolesWrongFalsely : Prop := fnExactCountHolesRow.holds Tryd.pinned (OpenSpec.ofChange fnExactCountHolesWrong)

/-- 'laws.FnExactEulerNumber': WHATEVER THE INPUT: true; the input reads as it did. -/
def fnExactEulerNumberSpec : ChangeSpec := { name := "fnExactEulerNumber", vars := ["loop.example/g01165/impl.errRowLength", "loop.example/g01165/impl.errNoResult"], fn := fun _ => fun
  | [d1, d2, g1, g2] => { results := [.lit (.bool true)], args := [d1, d2], vars := [g1, g2] }
  | _ => none }
def fnExactEulerNumberRow : OpenClaim := { program := "ytakaglbbcaplhaadoor", sum := "b3346d44b63fd09e69849aa8249ed32288ed0de711904328eb1bcea79cced975", func := "loop.example/g01165/laws.FnExactEulerNumber", spec := "fnExactEulerNumber", unfollowed := true, recurses := true, named := ["loop.example/g01165/impl.errRowLength", "loop.example/g01165/impl.errNoResult"], ifaces := true, apart := false, laid := [("loop.example/g01165/impl.errRowLength", laid_loop_example_g01165_impl_errRowLength), ("loop.example/g01165/impl.errNoResult", laid_loop_example_g01165_impl_errNoResult)] }
def FnExactEulerNumberSaid : Prop := fnExactEulerNumberRow.holds Tryd.pinned (OpenSpec.ofChange fnExactEulerNumberSpec)

/-- ITS FALSE NEIGHBOUR: 'it returns false'. Refute it at one input. -/
def fnExactEulerNumberWrong : ChangeSpec := { name := "fnExactEulerNumber", vars := ["loop.example/g01165/impl.errRowLength", "loop.example/g01165/impl.errNoResult"], fn := fun _ => fun
  | [d1, d2, g1, g2] => { results := [.lit (.bool false)], args := [d1, d2], vars := [g1, g2] }
  | _ => none }
def FnExactEulerNumberWrongFalsely : Prop := fnExactEulerNumberRow.holds Tryd.pinned (OpenSpec.ofChange fnExactEulerNumberWrong)

/-- 'laws.FnExactLargestComponent': WHATEVER THE INPUT: true; the input reads as it did. -/
def fnExactLargestComponentSpec : ChangeSpec := { name := "fnExactLargestComponent", vars := ["loop.example/g01165/impl.errRowLength", "loop.example/g01165/impl.errNoResult"], fn := fun _ => fun
  | [d1, d2, g1, g2] => { results := [.lit (.bool true)], args := [d1, d2], vars := [g1, g2] }
  | _ => none }
def fnExactLargestComponentRow : OpenClaim := { program := "ytakaglbbcaplhaadoor", sum := "b3346d44b63fd09e69849aa8249ed32288ed0de711904328eb1bcea79cced975", func := "loop.example/g01165/laws.FnExactLargestComponent", spec := "fnExactLargestComponent", unfollowed := true, recurses := true, named := ["loop.example/g01165/impl.errRowLength", "loop.example/g01165/impl.errNoResult", "bytes.ErrTooLarge"], ifaces := true, apart := false, laid := [("bytes.ErrTooLarge", laid_bytes_ErrTooLarge), ("loop.example/g01165/impl.errRowLength", laid_loop_example_g01165_impl_errRowLength), ("loop.example/g01165/impl.errNoResult", laid_loop_example_g01165_impl_errNoResult)] }
def FnExactLargestComponentSaid : Prop := fnExactLargestComponentRow.holds Tryd.pinned (OpenSpec.ofChange fnExactLargestComponentSpec)

/-- ITS FALSE NEIGHBOUR: 'it returns false'. Refute it at one input. -/
def fnExactLargestComponentWrong : ChangeSpec := { name := "fnExactLargestComponent", vars := ["loop.example/g01165/impl.errRowLength", "loop.example/g01165/impl.errNoResult"], fn := fun _ => fun
  | [d1, d2, g1, g2] => { results := [.lit (.bool false)], args := [d1, d2], vars := [g1, g2] }
  | _ => none }
def FnExactLargestComponentWrongFalsely : Prop := fnExactLargestComponentRow.holds Tryd.pinned (OpenSpec.ofChange fnExactLargestComponentWrong)

/-- 'laws.FnExactKeepComponents': WHATEVER THE INPUT: true; the input reads as it did. -/
def fnExactKeepComponentsSpec : ChangeSpec := { name := "fnExactKeepComponents", vars := ["loop.example/g01165/impl.errNoResult", "loop.example/g01165/impl.errRowLength"], fn := fun _ => fun
  | [d1, d2, d3, g1, g2] => { results := [.lit (.bool true)], args := [d1, d2, d3], vars := [g1, g2] }
  | _ => none }
def fnExactKeepComponentsRow : OpenClaim := { program := "ytakaglbbcaplhaadoor", sum := "b3346d44b63fd09e69849aa8249ed32288ed0de711904328eb1bcea79cced975", func := "loop.example/g01165/laws.FnExactKeepComponents", spec := "fnExactKeepComponents", unfollowed := true, recurses := true, named := ["loop.example/g01165/impl.errNoResult", "loop.example/g01165/impl.errRowLength", "bytes.ErrTooLarge"], ifaces := true, apart := false, laid := [("bytes.ErrTooLarge", laid_bytes_ErrTooLarge), ("loop.example/g01165/impl.errRowLength", laid_loop_example_g01165_impl_errRowLength), ("loop.example/g01165/impl.errNoResult", laid_loop_example_g01165_impl_errNoResult)] }
def FnExactKeepComponentsSaid : Prop := fnExactKeepComponentsRow.holds Tryd.pinned (OpenSpec.ofChange fnExactKeepComponentsSpec)

/-- ITS FALSE NEIGHBOUR: 'it returns false'. Refute it at one input. -/
def fnExactKeepComponentsWrong : ChangeSpec := { name := "fnExactKeepComponents", vars := ["loop.example/g01165/impl.errNoResult", "loop.example/g01165/impl.errRowLength"], fn := fun _ => fun
  | [d1, d2, d3, g1, g2] => { results := [.lit (.bool false)], args := [d1, d2, d3], vars := [g1, g2] }
  | _ => none }
def FnExactKeepComponentsWrongFalsely : Prop := fnExactKeepComponentsRow.holds Tryd.pinned (OpenSpec.ofChange fnExactKeepComponentsWrong)

/-- 'laws.FnExactFarSpots': WHATEVER THE INPUT: true; the input reads as it did. -/
def fnExactFarSpotsSpec : ChangeSpec := { name := "fnExactFarSpots", vars := ["loop.example/g01165/impl.errNoResult"], fn := fun _ => fun
  | [d1, d2, d3, g1] => { results := [.lit (.bool true)], args := [d1, d2, d3], vars := [g1] }
  | _ => none }
def fnExactFarSpotsRow : OpenClaim := { program := "ytakaglbbcaplhaadoor", sum := "b3346d44b63fd09e69849aa8249ed32288ed0de711904328eb1bcea79cced975", func := "loop.example/g01165/laws.FnExactFarSpots", spec := "fnExactFarSpots", unfollowed := true, recurses := true, named := ["loop.example/g01165/impl.errNoResult"], ifaces := true, apart := false, laid := [("loop.example/g01165/impl.errNoResult", laid_loop_example_g01165_impl_errNoResult)] }
def FnExactFarSpotsSaid : Prop := fnExactFarSpotsRow.holds Tryd.pinned (OpenSpec.ofChange fnExactFarSpotsSpec)

/-- ITS FALSE NEIGHBOUR: 'it returns false'. Refute it at one input. -/
def fnExactFarSpotsWrong : ChangeSpec := { name := "fnExactFarSpots", vars := ["loop.example/g01165/impl.errNoResult"], fn := fun _ => fun
  | [d1, d2, d3, g1] => { results := [.lit (.bool false)], args := [d1, d2, d3], vars := [g1] }
  | _ => none }
def FnExactFarSpotsWrongFalsely : Prop := fnExactFarSpotsRow.holds Tryd.pinned (OpenSpec.ofChange fnExactFarSpotsWrong)

/-- 'laws.FnExactNearestOf': WHATEVER THE INPUT: true; the input reads as it did. -/
def fnExactNearestOfSpec : ChangeSpec := { name := "fnExactNearestOf", vars := ["loop.example/g01165/impl.errRowLength", "loop.example/g01165/impl.errNoResult"], fn := fun _ => fun
  | [d1, d2, d3, g1, g2] => { results := [.lit (.bool true)], args := [d1, d2, d3], vars := [g1, g2] }
  | _ => none }
def fnExactNearestOfRow : OpenClaim := { program := "ytakaglbbcaplhaadoor", sum := "b3346d44b63fd09e69849aa8249ed32288ed0de711904328eb1bcea79cced975", func := "loop.example/g01165/laws.FnExactNearestOf", spec := "fnExactNearestOf", unfollowed := true, recurses := true, named := ["loop.example/g01165/impl.errRowLength", "loop.example/g01165/impl.errNoResult"], ifaces := true, apart := false, laid := [("loop.example/g01165/impl.errRowLength", laid_loop_example_g01165_impl_errRowLength), ("loop.example/g01165/impl.errNoResult", laid_loop_example_g01165_impl_errNoResult)] }
def FnExactNearestOfSaid : Prop := fnExactNearestOfRow.holds Tryd.pinned (OpenSpec.ofChange fnExactNearestOfSpec)

/-- ITS FALSE NEIGHBOUR: 'it returns false'. Refute it at one input. -/
def fnExactNearestOfWrong : ChangeSpec := { name := "fnExactNearestOf", vars := ["loop.example/g01165/impl.errRowLength", "loop.example/g01165/impl.errNoResult"], fn := fun _ => fun
  | [d1, d2, d3, g1, g2] => { results := [.lit (.bool false)], args := [d1, d2, d3], vars := [g1, g2] }
  | _ => none }
def FnExactNearestOfWrongFalsely : Prop := fnExactNearestOfRow.holds Tryd.pinned (OpenSpec.ofChange fnExactNearestOfWrong)

/-- 'laws.FnExactGrowBy': WHATEVER THE INPUT: true; the input reads as it did. -/
def fnExactGrowBySpec : ChangeSpec := { name := "fnExactGrowBy", vars := ["loop.example/g01165/impl.errNoResult", "loop.example/g01165/impl.errRowLength"], fn := fun _ => fun
  | [d1, d2, d3, g1, g2] => { results := [.lit (.bool true)], args := [d1, d2, d3], vars := [g1, g2] }
  | _ => none }
def fnExactGrowByRow : OpenClaim := { program := "ytakaglbbcaplhaadoor", sum := "b3346d44b63fd09e69849aa8249ed32288ed0de711904328eb1bcea79cced975", func := "loop.example/g01165/laws.FnExactGrowBy", spec := "fnExactGrowBy", unfollowed := true, recurses := true, named := ["loop.example/g01165/impl.errNoResult", "loop.example/g01165/impl.errRowLength", "bytes.ErrTooLarge"], ifaces := true, apart := false, laid := [("bytes.ErrTooLarge", laid_bytes_ErrTooLarge), ("loop.example/g01165/impl.errRowLength", laid_loop_example_g01165_impl_errRowLength), ("loop.example/g01165/impl.errNoResult", laid_loop_example_g01165_impl_errNoResult)] }
def FnExactGrowBySaid : Prop := fnExactGrowByRow.holds Tryd.pinned (OpenSpec.ofChange fnExactGrowBySpec)

/-- ITS FALSE NEIGHBOUR: 'it returns false'. Refute it at one input. -/
def fnExactGrowByWrong : ChangeSpec := { name := "fnExactGrowBy", vars := ["loop.example/g01165/impl.errNoResult", "loop.example/g01165/impl.errRowLength"], fn := fun _ => fun
  | [d1, d2, d3, g1, g2] => { results := [.lit (.bool false)], args := [d1, d2, d3], vars := [g1, g2] }
  | _ => none }
def FnExactGrowByWrongFalsely : Prop := fnExactGrowByRow.holds Tryd.pinned (OpenSpec.ofChange fnExactGrowByWrong)

/-- 'laws.FnExactShrinkBy': WHATEVER THE INPUT: true; the input reads as it did. -/
def fnExactShrinkBySpec : ChangeSpec := { name := "fnExactShrinkBy", vars := ["loop.example/g01165/impl.errNoResult", "loop.example/g01165/impl.errRowLength"], fn := fun _ => fun
  | [d1, d2, d3, g1, g2] => { results := [.lit (.bool true)], args := [d1, d2, d3], vars := [g1, g2] }
  | _ => none }
def fnExactShrinkByRow : OpenClaim := { program := "ytakaglbbcaplhaadoor", sum := "b3346d44b63fd09e69849aa8249ed32288ed0de711904328eb1bcea79cced975", func := "loop.example/g01165/laws.FnExactShrinkBy", spec := "fnExactShrinkBy", unfollowed := true, recurses := true, named := ["loop.example/g01165/impl.errNoResult", "loop.example/g01165/impl.errRowLength", "bytes.ErrTooLarge"], ifaces := true, apart := false, laid := [("bytes.ErrTooLarge", laid_bytes_ErrTooLarge), ("loop.example/g01165/impl.errRowLength", laid_loop_example_g01165_impl_errRowLength), ("loop.example/g01165/impl.errNoResult", laid_loop_example_g01165_impl_errNoResult)] }
def FnExactShrinkBySaid : Prop := fnExactShrinkByRow.holds Tryd.pinned (OpenSpec.ofChange fnExactShrinkBySpec)

/-- ITS FALSE NEIGHBOUR: 'it returns false'. Refute it at one input. -/
def fnExactShrinkByWrong : ChangeSpec := { name := "fnExactShrinkBy", vars := ["loop.example/g01165/impl.errNoResult", "loop.example/g01165/impl.errRowLength"], fn := fun _ => fun
  | [d1, d2, d3, g1, g2] => { results := [.lit (.bool false)], args := [d1, d2, d3], vars := [g1, g2] }
  | _ => none }
def FnExactShrinkByWrongFalsely : Prop := fnExactShrinkByRow.holds Tryd.pinned (OpenSpec.ofChange fnExactShrinkByWrong)

/-- 'laws.FnExactDistancesOf': WHATEVER THE INPUT: true; the input reads as it did. -/
def fnExactDistancesOfSpec : ChangeSpec := { name := "fnExactDistancesOf", vars := ["loop.example/g01165/impl.errRowLength", "loop.example/g01165/impl.errNoResult"], fn := fun _ => fun
  | [d1, d2, g1, g2] => { results := [.lit (.bool true)], args := [d1, d2], vars := [g1, g2] }
  | _ => none }
def fnExactDistancesOfRow : OpenClaim := { program := "ytakaglbbcaplhaadoor", sum := "b3346d44b63fd09e69849aa8249ed32288ed0de711904328eb1bcea79cced975", func := "loop.example/g01165/laws.FnExactDistancesOf", spec := "fnExactDistancesOf", unfollowed := true, recurses := true, named := ["loop.example/g01165/impl.errRowLength", "loop.example/g01165/impl.errNoResult"], ifaces := true, apart := false, laid := [("loop.example/g01165/impl.errRowLength", laid_loop_example_g01165_impl_errRowLength), ("loop.example/g01165/impl.errNoResult", laid_loop_example_g01165_impl_errNoResult)] }
def FnExactDistancesOfSaid : Prop := fnExactDistancesOfRow.holds Tryd.pinned (OpenSpec.ofChange fnExactDistancesOfSpec)

/-- ITS FALSE NEIGHBOUR: 'it returns false'. Refute it at one input. -/
def fnExactDistancesOfWrong : ChangeSpec := { name := "fnExactDistancesOf", vars := ["loop.example/g01165/impl.errRowLength", "loop.example/g01165/impl.errNoResult"], fn := fun _ => fun
  | [d1, d2, g1, g2] => { results := [.lit (.bool false)], args := [d1, d2], vars := [g1, g2] }
  | _ => none }
def FnExactDistancesOfWrongFalsely : Prop := fnExactDistancesOfRow.holds Tryd.pinned (OpenSpec.ofChange fnExactDistancesOfWrong)

/- THE SECOND FORM. 'bulk': how many values and letters a reading holds, each counted each time it is reached (what is shared counts as often as it is met; a slice's spare places count too). A statement '..UptoSaid' is the law's where the arguments, and the package variables that the reading takes, are together of bulk at most 1048576: NARROWER than '..Said'. Prove '..Said' where nothing that the law and all that it calls make is longer than what came in: it says more and counts as full. Else prove '..UptoSaid'. A law counts once. -/
mutual
def uptoBulk {H : Type} : DataW H → Nat
  | .lit (.string bytes) => bytes.length + 1
  | .lit _ => 1
  | .nil => 1
  | .ptr d => uptoBulk d + 1
  | .slice elems spare => uptoBulkAll elems + uptoBulkAll spare + 1
  | .agg parts => uptoBulkAll parts + 1
  | .iface _ d => uptoBulk d + 1
  | .map entries => uptoBulkEntries entries + 1
  | .held _ => 1
def uptoBulkAll {H : Type} : List (DataW H) → Nat
  | [] => 0
  | d :: r => uptoBulk d + uptoBulkAll r
def uptoBulkEntries {H : Type} : List (Lit × DataW H) → Nat
  | [] => 0
  | x :: r => uptoBulkEntry x + uptoBulkEntries r
def uptoBulkEntry {H : Type} : Lit × DataW H → Nat
  | (.string bytes, d) => bytes.length + uptoBulk d + 1
  | (_, d) => uptoBulk d + 1
 end
def uptoSmall : (H : Type) → List (DataW H) → Bool := fun _ ds => decide (uptoBulkAll ds ≤ 1048576)
def OpenSpec.upto (s : _root_.Go.ChangeSpec) : _root_.Go.OpenSpec := { _root_.Go.OpenSpec.ofChange s with cond := some uptoSmall }

/-- 'laws.FnExactIsSimple', WHERE WHAT IT READS IS OF BULK AT MOST 1048576: true; the input reads as it did. -/
def fnExactIsSimpleUptoRow : OpenClaim := { program := "ytakaglbbcaplhaadoor", sum := "b3346d44b63fd09e69849aa8249ed32288ed0de711904328eb1bcea79cced975", func := "loop.example/g01165/laws.FnExactIsSimple", spec := "fnExactIsSimple", named := ["loop.example/g01165/impl.errRowLength", "loop.example/g01165/impl.ringOffsets"], ifaces := true, apart := false, laid := [("loop.example/g01165/impl.errRowLength", laid_loop_example_g01165_impl_errRowLength), ("loop.example/g01165/impl.ringOffsets", laid_loop_example_g01165_impl_ringOffsets)], narrowed := true }
def FnExactIsSimpleUptoSaid : Prop := fnExactIsSimpleUptoRow.holds Tryd.pinned (OpenSpec.upto fnExactIsSimpleSpec)

/-- 'laws.FnExactComponentsOf', WHERE WHAT IT READS IS OF BULK AT MOST 1048576: true; the input reads as it did. -/
def fnExactComponentsOfUptoRow : OpenClaim := { program := "ytakaglbbcaplhaadoor", sum := "b3346d44b63fd09e69849aa8249ed32288ed0de711904328eb1bcea79cced975", func := "loop.example/g01165/laws.FnExactComponentsOf", spec := "fnExactComponentsOf", unfollowed := true, recurses := true, named := ["loop.example/g01165/impl.errRowLength", "loop.example/g01165/impl.errNoResult"], ifaces := true, apart := false, laid := [("loop.example/g01165/impl.errRowLength", laid_loop_example_g01165_impl_errRowLength), ("loop.example/g01165/impl.errNoResult", laid_loop_example_g01165_impl_errNoResult)], narrowed := true }
def FnExactComponentsOfUptoSaid : Prop := fnExactComponentsOfUptoRow.holds Tryd.pinned (OpenSpec.upto fnExactComponentsOfSpec)

/-- 'laws.FnExactAreasOf', WHERE WHAT IT READS IS OF BULK AT MOST 1048576: true; the input reads as it did. -/
def fnExactAreasOfUptoRow : OpenClaim := { program := "ytakaglbbcaplhaadoor", sum := "b3346d44b63fd09e69849aa8249ed32288ed0de711904328eb1bcea79cced975", func := "loop.example/g01165/laws.FnExactAreasOf", spec := "fnExactAreasOf", unfollowed := true, recurses := true, named := ["loop.example/g01165/impl.errRowLength", "loop.example/g01165/impl.errNoResult"], ifaces := true, apart := false, laid := [("loop.example/g01165/impl.errRowLength", laid_loop_example_g01165_impl_errRowLength), ("loop.example/g01165/impl.errNoResult", laid_loop_example_g01165_impl_errNoResult)], narrowed := true }
def FnExactAreasOfUptoSaid : Prop := fnExactAreasOfUptoRow.holds Tryd.pinned (OpenSpec.upto fnExactAreasOfSpec)

/-- 'laws.FnExactCountHoles', WHERE WHAT IT READS IS OF BULK AT MOST 1048576: true; the input reads as it did. -/
def fnExactCountHolesUptoRow : OpenClaim := { program := "ytakaglbbcaplhaadoor", sum := "b3346d44b63fd09e69849aa8249ed32288ed0de711904328eb1bcea79cced975", func := "loop.example/g01165/laws.FnExactCountHoles", spec := "fnExactCountHoles", unfollowed := true, recurses := true, named := ["loop.example/g01165/impl.errRowLength", "loop.example/g01165/impl.errNoResult"], ifaces := true, apart := false, laid := [("loop.example/g01165/impl.errRowLength", laid_loop_example_g01165_impl_errRowLength), ("loop.example/g01165/impl.errNoResult", laid_loop_example_g01165_impl_errNoResult)], narrowed := true }
def FnExactCountHolesUptoSaid : Prop := fnExactCountHolesUptoRow.holds Tryd.pinned (OpenSpec.upto fnExactCountHolesSpec)

/-- 'laws.FnExactEulerNumber', WHERE WHAT IT READS IS OF BULK AT MOST 1048576: true; the input reads as it did. -/
def fnExactEulerNumberUptoRow : OpenClaim := { program := "ytakaglbbcaplhaadoor", sum := "b3346d44b63fd09e69849aa8249ed32288ed0de711904328eb1bcea79cced975", func := "loop.example/g01165/laws.FnExactEulerNumber", spec := "fnExactEulerNumber", unfollowed := true, recurses := true, named := ["loop.example/g01165/impl.errRowLength", "loop.example/g01165/impl.errNoResult"], ifaces := true, apart := false, laid := [("loop.example/g01165/impl.errRowLength", laid_loop_example_g01165_impl_errRowLength), ("loop.example/g01165/impl.errNoResult", laid_loop_example_g01165_impl_errNoResult)], narrowed := true }
def FnExactEulerNumberUptoSaid : Prop := fnExactEulerNumberUptoRow.holds Tryd.pinned (OpenSpec.upto fnExactEulerNumberSpec)

/-- 'laws.FnExactLargestComponent', WHERE WHAT IT READS IS OF BULK AT MOST 1048576: true; the input reads as it did. -/
def fnExactLargestComponentUptoRow : OpenClaim := { program := "ytakaglbbcaplhaadoor", sum := "b3346d44b63fd09e69849aa8249ed32288ed0de711904328eb1bcea79cced975", func := "loop.example/g01165/laws.FnExactLargestComponent", spec := "fnExactLargestComponent", unfollowed := true, recurses := true, named := ["loop.example/g01165/impl.errRowLength", "loop.example/g01165/impl.errNoResult", "bytes.ErrTooLarge"], ifaces := true, apart := false, laid := [("bytes.ErrTooLarge", laid_bytes_ErrTooLarge), ("loop.example/g01165/impl.errRowLength", laid_loop_example_g01165_impl_errRowLength), ("loop.example/g01165/impl.errNoResult", laid_loop_example_g01165_impl_errNoResult)], narrowed := true }
def FnExactLargestComponentUptoSaid : Prop := fnExactLargestComponentUptoRow.holds Tryd.pinned (OpenSpec.upto fnExactLargestComponentSpec)

/-- 'laws.FnExactKeepComponents', WHERE WHAT IT READS IS OF BULK AT MOST 1048576: true; the input reads as it did. -/
def fnExactKeepComponentsUptoRow : OpenClaim := { program := "ytakaglbbcaplhaadoor", sum := "b3346d44b63fd09e69849aa8249ed32288ed0de711904328eb1bcea79cced975", func := "loop.example/g01165/laws.FnExactKeepComponents", spec := "fnExactKeepComponents", unfollowed := true, recurses := true, named := ["loop.example/g01165/impl.errNoResult", "loop.example/g01165/impl.errRowLength", "bytes.ErrTooLarge"], ifaces := true, apart := false, laid := [("bytes.ErrTooLarge", laid_bytes_ErrTooLarge), ("loop.example/g01165/impl.errRowLength", laid_loop_example_g01165_impl_errRowLength), ("loop.example/g01165/impl.errNoResult", laid_loop_example_g01165_impl_errNoResult)], narrowed := true }
def FnExactKeepComponentsUptoSaid : Prop := fnExactKeepComponentsUptoRow.holds Tryd.pinned (OpenSpec.upto fnExactKeepComponentsSpec)

/-- 'laws.FnExactFarSpots', WHERE WHAT IT READS IS OF BULK AT MOST 1048576: true; the input reads as it did. -/
def fnExactFarSpotsUptoRow : OpenClaim := { program := "ytakaglbbcaplhaadoor", sum := "b3346d44b63fd09e69849aa8249ed32288ed0de711904328eb1bcea79cced975", func := "loop.example/g01165/laws.FnExactFarSpots", spec := "fnExactFarSpots", unfollowed := true, recurses := true, named := ["loop.example/g01165/impl.errNoResult"], ifaces := true, apart := false, laid := [("loop.example/g01165/impl.errNoResult", laid_loop_example_g01165_impl_errNoResult)], narrowed := true }
def FnExactFarSpotsUptoSaid : Prop := fnExactFarSpotsUptoRow.holds Tryd.pinned (OpenSpec.upto fnExactFarSpotsSpec)

/-- 'laws.FnExactNearestOf', WHERE WHAT IT READS IS OF BULK AT MOST 1048576: true; the input reads as it did. -/
def fnExactNearestOfUptoRow : OpenClaim := { program := "ytakaglbbcaplhaadoor", sum := "b3346d44b63fd09e69849aa8249ed32288ed0de711904328eb1bcea79cced975", func := "loop.example/g01165/laws.FnExactNearestOf", spec := "fnExactNearestOf", unfollowed := true, recurses := true, named := ["loop.example/g01165/impl.errRowLength", "loop.example/g01165/impl.errNoResult"], ifaces := true, apart := false, laid := [("loop.example/g01165/impl.errRowLength", laid_loop_example_g01165_impl_errRowLength), ("loop.example/g01165/impl.errNoResult", laid_loop_example_g01165_impl_errNoResult)], narrowed := true }
def FnExactNearestOfUptoSaid : Prop := fnExactNearestOfUptoRow.holds Tryd.pinned (OpenSpec.upto fnExactNearestOfSpec)

/-- 'laws.FnExactGrowBy', WHERE WHAT IT READS IS OF BULK AT MOST 1048576: true; the input reads as it did. -/
def fnExactGrowByUptoRow : OpenClaim := { program := "ytakaglbbcaplhaadoor", sum := "b3346d44b63fd09e69849aa8249ed32288ed0de711904328eb1bcea79cced975", func := "loop.example/g01165/laws.FnExactGrowBy", spec := "fnExactGrowBy", unfollowed := true, recurses := true, named := ["loop.example/g01165/impl.errNoResult", "loop.example/g01165/impl.errRowLength", "bytes.ErrTooLarge"], ifaces := true, apart := false, laid := [("bytes.ErrTooLarge", laid_bytes_ErrTooLarge), ("loop.example/g01165/impl.errRowLength", laid_loop_example_g01165_impl_errRowLength), ("loop.example/g01165/impl.errNoResult", laid_loop_example_g01165_impl_errNoResult)], narrowed := true }
def FnExactGrowByUptoSaid : Prop := fnExactGrowByUptoRow.holds Tryd.pinned (OpenSpec.upto fnExactGrowBySpec)

/-- 'laws.FnExactShrinkBy', WHERE WHAT IT READS IS OF BULK AT MOST 1048576: true; the input reads as it did. -/
def fnExactShrinkByUptoRow : OpenClaim := { program := "ytakaglbbcaplhaadoor", sum := "b3346d44b63fd09e69849aa8249ed32288ed0de711904328eb1bcea79cced975", func := "loop.example/g01165/laws.FnExactShrinkBy", spec := "fnExactShrinkBy", unfollowed := true, recurses := true, named := ["loop.example/g01165/impl.errNoResult", "loop.example/g01165/impl.errRowLength", "bytes.ErrTooLarge"], ifaces := true, apart := false, laid := [("bytes.ErrTooLarge", laid_bytes_ErrTooLarge), ("loop.example/g01165/impl.errRowLength", laid_loop_example_g01165_impl_errRowLength), ("loop.example/g01165/impl.errNoResult", laid_loop_example_g01165_impl_errNoResult)], narrowed := true }
def FnExactShrinkByUptoSaid : Prop := fnExactShrinkByUptoRow.holds Tryd.pinned (OpenSpec.upto fnExactShrinkBySpec)

/-- 'laws.FnExactDistancesOf', WHERE WHAT IT READS IS OF BULK AT MOST 1048576: true; the input reads as it did. -/
def fnExactDistancesOfUptoRow : OpenClaim := { program := "ytakaglbbcaplhaadoor", sum := "b3346d44b63fd09e69849aa8249ed32288ed0de711904328eb1bcea79cced975", func := "loop.example/g01165/laws.FnExactDistancesOf", spec := "fnExactDistancesOf", unfollowed := true, recurses := true, named := ["loop.example/g01165/impl.errRowLength", "loop.example/g01165/impl.errNoResult"], ifaces := true, apart := false, laid := [("loop.example/g01165/impl.errRowLength", laid_loop_example_g01165_impl_errRowLength), ("loop.example/g01165/impl.errNoResult", laid_loop_example_g01165_impl_errNoResult)], narrowed := true }
def FnExactDistancesOfUptoSaid : Prop := fnExactDistancesOfUptoRow.holds Tryd.pinned (OpenSpec.upto fnExactDistancesOfSpec)

end Rows
end Go.Proofs.YtakaglbbcaplhaaDoor
