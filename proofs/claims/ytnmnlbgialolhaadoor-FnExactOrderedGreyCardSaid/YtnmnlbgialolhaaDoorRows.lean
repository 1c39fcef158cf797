/-
  NARROWER THAN 'FOR EVERY INPUT', by the rows' own cells (each row's printed sentence says how): FnExactResidueOf: ifaces, laid · FnExactFromResidue: ifaces, laid · FnExactGreyOfPicture: ifaces, laid · FnExactMeanError: ifaces, laid · FnExactOrderedGrey: ifaces, laid · FnExactSpreadGrey: ifaces, laid · FnResidues: ifaces, laid.
  DERIVED. THE GIVEN ROWS OF THIS SEAT. 7 by the template 'for every input the law returns true; each argument reads behind the call as it read before'; 0 by the template 'total and deterministic' (their statements: YtnmnlbgialolhaaDoorTotals.lean).
  GIVEN WITH THE SEED: the statements are not yours to turn. If you find one false, say at which input.
  Laid BY PROGRAM, IN A SANDBOX (cutbox-rows.mjs): the forced cells as the released guide's own fill.sh prints them over the translation abb069f8ee415132… (all of the seat's roots in one cut). By AI agents, Wed Nov 11 2026. No macro, syntax, notation, axiom, sorry.
-/
import Derived.Test.YtnmnlbgialolhaaDoorChecked
import GoSem.Claim
import GoSem.ClaimJoined
import GoSem.ClaimMapViews
import Derived.JoinedTies
import Derived.KernelRfl
namespace Go.Proofs.YtnmnlbgialolhaaDoor
/- THE CELL 'sum', in the pinned program and in every row, IS THE sha256 OF THE DUMP (.gsa) THAT YtnmnlbgialolhaaDoorProg.lean LOADS. Nothing in Lean hashes anything: it is a label: what it is worth is what the hold of that sum in a sandbox is worth. -/
noncomputable def Tryd.pinned : Pinned := { name := "ytnmnlbgialolhaadoor", sum := "abb069f8ee415132bca210c2db3e37ca0de762ee55dedb7ccb2972b909f43d33", checked := Tryd.checked }
namespace Rows
def none {H : Type} : Left H := { results := [], args := [] }

/- WHAT THE LISTED PACKAGE-LEVEL VARIABLES READ AS WHEN THE CALL BEGINS. Each datum BY PROGRAM (the guide's laid-datum.mjs) off the statement by which the dump's own 'gosem.cut.vars' lays the variable. In a bare row this is a premise. The card (YtnmnlbgialolhaaDoorCards.lean) ties it to the program's text. -/
def laid_bytes_ErrTooLarge {H : Type} : DataW H := .iface "*errors.errorString" (.ptr (.agg [.lit (.string [98, 121, 116, 101, 115, 46, 66, 117, 102, 102, 101, 114, 58, 32, 116, 111, 111, 32, 108, 97, 114, 103, 101])]))
def laid_loop_example_g01165_impl_errRowLength {H : Type} : DataW H := .iface "*errors.errorString" (.ptr (.agg [.lit (.string [97, 32, 114, 111, 119, 32, 104, 97, 115, 32, 110, 111, 32, 112, 105, 120, 101, 108, 115, 44, 32, 111, 114, 32, 116, 111, 111, 32, 109, 97, 110, 121])]))
def laid_loop_example_g01165_impl_errNoResult {H : Type} : DataW H := .iface "*errors.errorString" (.ptr (.agg [.lit (.string [116, 104, 101, 32, 114, 101, 115, 117, 108, 116, 32, 100, 111, 101, 115, 32, 110, 111, 116, 32, 101, 120, 105, 115, 116])]))
def laid_loop_example_g01165_impl_places {H : Type} : DataW H := .agg [.agg [.lit (.int .i64 0), .lit (.int .i64 8), .lit (.int .i64 2), .lit (.int .i64 10)], .agg [.lit (.int .i64 12), .lit (.int .i64 4), .lit (.int .i64 14), .lit (.int .i64 6)], .agg [.lit (.int .i64 3), .lit (.int .i64 11), .lit (.int .i64 1), .lit (.int .i64 9)], .agg [.lit (.int .i64 15), .lit (.int .i64 7), .lit (.int .i64 13), .lit (.int .i64 5)]]
def laid_loop_example_g01165_impl_roundedShares {H : Type} : DataW H := .agg [.agg [.lit (.int .i64 7), .agg [.lit (.int .i64 1), .lit (.int .i64 0)]], .agg [.lit (.int .i64 3), .agg [.lit (.int .i64 (-1)), .lit (.int .i64 1)]], .agg [.lit (.int .i64 5), .agg [.lit (.int .i64 0), .lit (.int .i64 1)]]]
def laid_loop_example_g01165_impl_restMove {H : Type} : DataW H := .agg [.lit (.int .i64 1), .lit (.int .i64 1)]

/-- 'laws.FnExactResidueOf': WHATEVER THE INPUT: true; the input reads as it did. -/
def fnExactResidueOfSpec : ChangeSpec := { name := "fnExactResidueOf", vars := ["loop.example/g01165/impl.errRowLength", "loop.example/g01165/impl.errNoResult"], fn := fun _ => fun
  | [d, g1, g2] => { results := [.lit (.bool true)], args := [d], vars := [g1, g2] }
  | _ => none }
def fnExactResidueOfRow : OpenClaim := { program := "ytnmnlbgialolhaadoor", sum := "abb069f8ee415132bca210c2db3e37ca0de762ee55dedb7ccb2972b909f43d33", func := "loop.example/g01165/laws.FnExactResidueOf", spec := "fnExactResidueOf", unfollowed := true, recurses := true, named := ["loop.example/g01165/impl.errRowLength", "loop.example/g01165/impl.errNoResult", "bytes.ErrTooLarge"], ifaces := true, apart := false, laid := [("bytes.ErrTooLarge", laid_bytes_ErrTooLarge), ("loop.example/g01165/impl.errRowLength", laid_loop_example_g01165_impl_errRowLength), ("loop.example/g01165/impl.errNoResult", laid_loop_example_g01165_impl_errNoResult)] }
def FnExactResidueOfSaid : Prop := fnExactResidueOfRow.holds Tryd.pinned (OpenSpec.ofChange fnExactResidueOfSpec)

/-- ITS FALSE NEIGHBOUR: 'it returns false'. Refute it at one input. -/
def fnExactResidueOfWrong : ChangeSpec := { name := "fnExactResidueOf", vars := ["loop.example/g01165/impl.errRowLength", "loop.example/g01165/impl.errNoResult"], fn := fun _ => fun
  | [d, g1, g2] => { results := [.lit (.bool false)], args := [d], vars := [g1, g2] }
  | _ => none }
def FnExactResidueOfWrongFalsely : Prop := fnExactResidueOfRow.holds Tryd.pinned (OpenSpec.ofChange fnExactResidueOfWrong)

/-- 'laws.FnExactFromResidue': WHATEVER THE INPUT: true; the input reads as it did. -/
def fnExactFromResidueSpec : ChangeSpec := { name := "fnExactFromResidue", vars := ["loop.example/g01165/impl.errRowLength", "loop.example/g01165/impl.errNoResult"], fn := fun _ => fun
  | [d, g1, g2] => { results := [.lit (.bool true)], args := [d], vars := [g1, g2] }
  | _ => none }
def fnExactFromResidueRow : OpenClaim := { program := "ytnmnlbgialolhaadoor", sum := "abb069f8ee415132bca210c2db3e37ca0de762ee55dedb7ccb2972b909f43d33", func := "loop.example/g01165/laws.FnExactFromResidue", spec := "fnExactFromResidue", unfollowed := true, recurses := true, named := ["loop.example/g01165/impl.errRowLength", "loop.example/g01165/impl.errNoResult", "bytes.ErrTooLarge"], ifaces := true, apart := false, laid := [("bytes.ErrTooLarge", laid_bytes_ErrTooLarge), ("loop.example/g01165/impl.errRowLength", laid_loop_example_g01165_impl_errRowLength), ("loop.example/g01165/impl.errNoResult", laid_loop_example_g01165_impl_errNoResult)] }
def FnExactFromResidueSaid : Prop := fnExactFromResidueRow.holds Tryd.pinned (OpenSpec.ofChange fnExactFromResidueSpec)

/-- ITS FALSE NEIGHBOUR: 'it returns false'. Refute it at one input. -/
def fnExactFromResidueWrong : ChangeSpec := { name := "fnExactFromResidue", vars := ["loop.example/g01165/impl.errRowLength", "loop.example/g01165/impl.errNoResult"], fn := fun _ => fun
  | [d, g1, g2] => { results := [.lit (.bool false)], args := [d], vars := [g1, g2] }
  | _ => none }
def FnExactFromResidueWrongFalsely : Prop := fnExactFromResidueRow.holds Tryd.pinned (OpenSpec.ofChange fnExactFromResidueWrong)

/-- 'laws.FnExactGreyOfPicture': WHATEVER THE INPUT: true; the input reads as it did. -/
def fnExactGreyOfPictureSpec : ChangeSpec := { name := "fnExactGreyOfPicture", vars := ["loop.example/g01165/impl.errRowLength", "loop.example/g01165/impl.errNoResult"], fn := fun _ => fun
  | [d, g1, g2] => { results := [.lit (.bool true)], args := [d], vars := [g1, g2] }
  | _ => none }
def fnExactGreyOfPictureRow : OpenClaim := { program := "ytnmnlbgialolhaadoor", sum := "abb069f8ee415132bca210c2db3e37ca0de762ee55dedb7ccb2972b909f43d33", func := "loop.example/g01165/laws.FnExactGreyOfPicture", spec := "fnExactGreyOfPicture", unfollowed := true, recurses := true, named := ["loop.example/g01165/impl.errRowLength", "loop.example/g01165/impl.errNoResult"], ifaces := true, apart := false, laid := [("loop.example/g01165/impl.errRowLength", laid_loop_example_g01165_impl_errRowLength), ("loop.example/g01165/impl.errNoResult", laid_loop_example_g01165_impl_errNoResult)] }
def FnExactGreyOfPictureSaid : Prop := fnExactGreyOfPictureRow.holds Tryd.pinned (OpenSpec.ofChange fnExactGreyOfPictureSpec)

/-- ITS FALSE NEIGHBOUR: 'it returns false'. Refute it at one input. -/
def fnExactGreyOfPictureWrong : ChangeSpec := { name := "fnExactGreyOfPicture", vars := ["loop.example/g01165/impl.errRowLength", "loop.example/g01165/impl.errNoResult"], fn := fun _ => fun
  | [d, g1, g2] => { results := [.lit (.bool false)], args := [d], vars := [g1, g2] }
  | _ => none }
def FnExactGreyOfPictureWrongFalsely : Prop := fnExactGreyOfPictureRow.holds Tryd.pinned (OpenSpec.ofChange fnExactGreyOfPictureWrong)

/-- 'laws.FnExactMeanError': WHATEVER THE INPUT: true; the input reads as it did. -/
def fnExactMeanErrorSpec : ChangeSpec := { name := "fnExactMeanError", vars := ["loop.example/g01165/impl.errNoResult", "loop.example/g01165/impl.errRowLength"], fn := fun _ => fun
  | [d1, d2, g1, g2] => { results := [.lit (.bool true)], args := [d1, d2], vars := [g1, g2] }
  | _ => none }
def fnExactMeanErrorRow : OpenClaim := { program := "ytnmnlbgialolhaadoor", sum := "abb069f8ee415132bca210c2db3e37ca0de762ee55dedb7ccb2972b909f43d33", func := "loop.example/g01165/laws.FnExactMeanError", spec := "fnExactMeanError", unfollowed := true, recurses := true, named := ["loop.example/g01165/impl.errNoResult", "loop.example/g01165/impl.errRowLength"], ifaces := true, apart := false, laid := [("loop.example/g01165/impl.errRowLength", laid_loop_example_g01165_impl_errRowLength), ("loop.example/g01165/impl.errNoResult", laid_loop_example_g01165_impl_errNoResult)] }
def FnExactMeanErrorSaid : Prop := fnExactMeanErrorRow.holds Tryd.pinned (OpenSpec.ofChange fnExactMeanErrorSpec)

/-- ITS FALSE NEIGHBOUR: 'it returns false'. Refute it at one input. -/
def fnExactMeanErrorWrong : ChangeSpec := { name := "fnExactMeanError", vars := ["loop.example/g01165/impl.errNoResult", "loop.example/g01165/impl.errRowLength"], fn := fun _ => fun
  | [d1, d2, g1, g2] => { results := [.lit (.bool false)], args := [d1, d2], vars := [g1, g2] }
  | _ => none }
def FnExactMeanErrorWrongFalsely : Prop := fnExactMeanErrorRow.holds Tryd.pinned (OpenSpec.ofChange fnExactMeanErrorWrong)

/-- 'laws.FnExactOrderedGrey': WHATEVER THE INPUT: true; the input reads as it did. -/
def fnExactOrderedGreySpec : ChangeSpec := { name := "fnExactOrderedGrey", vars := ["loop.example/g01165/impl.places", "loop.example/g01165/impl.errNoResult"], fn := fun _ => fun
  | [d, g1, g2] => { results := [.lit (.bool true)], args := [d], vars := [g1, g2] }
  | _ => none }
def fnExactOrderedGreyRow : OpenClaim := { program := "ytnmnlbgialolhaadoor", sum := "abb069f8ee415132bca210c2db3e37ca0de762ee55dedb7ccb2972b909f43d33", func := "loop.example/g01165/laws.FnExactOrderedGrey", spec := "fnExactOrderedGrey", unfollowed := true, recurses := true, named := ["loop.example/g01165/impl.places", "loop.example/g01165/impl.errNoResult", "bytes.ErrTooLarge"], ifaces := true, apart := false, laid := [("bytes.ErrTooLarge", laid_bytes_ErrTooLarge), ("loop.example/g01165/impl.errNoResult", laid_loop_example_g01165_impl_errNoResult), ("loop.example/g01165/impl.places", laid_loop_example_g01165_impl_places)] }
def FnExactOrderedGreySaid : Prop := fnExactOrderedGreyRow.holds Tryd.pinned (OpenSpec.ofChange fnExactOrderedGreySpec)

/-- ITS FALSE NEIGHBOUR: 'it returns false'. Refute it at one input. -/
def fnExactOrderedGreyWrong : ChangeSpec := { name := "fnExactOrderedGrey", vars := ["loop.example/g01165/impl.places", "loop.example/g01165/impl.errNoResult"], fn := fun _ => fun
  | [d, g1, g2] => { results := [.lit (.bool false)], args := [d], vars := [g1, g2] }
  | _ => none }
def FnExactOrderedGreyWrongFalsely : Prop := fnExactOrderedGreyRow.holds Tryd.pinned (OpenSpec.ofChange fnExactOrderedGreyWrong)

/-- 'laws.FnExactSpreadGrey': WHATEVER THE INPUT: true; the input reads as it did. -/
def fnExactSpreadGreySpec : ChangeSpec := { name := "fnExactSpreadGrey", vars := ["loop.example/g01165/impl.errNoResult", "loop.example/g01165/impl.roundedShares", "loop.example/g01165/impl.restMove"], fn := fun _ => fun
  | [d, g1, g2, g3] => { results := [.lit (.bool true)], args := [d], vars := [g1, g2, g3] }
  | _ => none }
def fnExactSpreadGreyRow : OpenClaim := { program := "ytnmnlbgialolhaadoor", sum := "abb069f8ee415132bca210c2db3e37ca0de762ee55dedb7ccb2972b909f43d33", func := "loop.example/g01165/laws.FnExactSpreadGrey", spec := "fnExactSpreadGrey", unfollowed := true, recurses := true, named := ["loop.example/g01165/impl.errNoResult", "loop.example/g01165/impl.roundedShares", "loop.example/g01165/impl.restMove", "bytes.ErrTooLarge"], ifaces := true, apart := false, laid := [("bytes.ErrTooLarge", laid_bytes_ErrTooLarge), ("loop.example/g01165/impl.errNoResult", laid_loop_example_g01165_impl_errNoResult), ("loop.example/g01165/impl.roundedShares", laid_loop_example_g01165_impl_roundedShares), ("loop.example/g01165/impl.restMove", laid_loop_example_g01165_impl_restMove)] }
def FnExactSpreadGreySaid : Prop := fnExactSpreadGreyRow.holds Tryd.pinned (OpenSpec.ofChange fnExactSpreadGreySpec)

/-- ITS FALSE NEIGHBOUR: 'it returns false'. Refute it at one input. -/
def fnExactSpreadGreyWrong : ChangeSpec := { name := "fnExactSpreadGrey", vars := ["loop.example/g01165/impl.errNoResult", "loop.example/g01165/impl.roundedShares", "loop.example/g01165/impl.restMove"], fn := fun _ => fun
  | [d, g1, g2, g3] => { results := [.lit (.bool false)], args := [d], vars := [g1, g2, g3] }
  | _ => none }
def FnExactSpreadGreyWrongFalsely : Prop := fnExactSpreadGreyRow.holds Tryd.pinned (OpenSpec.ofChange fnExactSpreadGreyWrong)

/-- 'laws.FnResidues': WHATEVER THE INPUT: true; the input reads as it did. -/
def fnResiduesSpec : ChangeSpec := { name := "fnResidues", vars := ["loop.example/g01165/impl.errRowLength", "loop.example/g01165/impl.errNoResult"], fn := fun _ => fun
  | [d1, d2, g1, g2] => { results := [.lit (.bool true)], args := [d1, d2], vars := [g1, g2] }
  | _ => none }
def fnResiduesRow : OpenClaim := { program := "ytnmnlbgialolhaadoor", sum := "abb069f8ee415132bca210c2db3e37ca0de762ee55dedb7ccb2972b909f43d33", func := "loop.example/g01165/laws.FnResidues", spec := "fnResidues", unfollowed := true, recurses := true, named := ["loop.example/g01165/impl.errRowLength", "loop.example/g01165/impl.errNoResult", "bytes.ErrTooLarge"], ifaces := true, apart := false, laid := [("bytes.ErrTooLarge", laid_bytes_ErrTooLarge), ("loop.example/g01165/impl.errRowLength", laid_loop_example_g01165_impl_errRowLength), ("loop.example/g01165/impl.errNoResult", laid_loop_example_g01165_impl_errNoResult)] }
def FnResiduesSaid : Prop := fnResiduesRow.holds Tryd.pinned (OpenSpec.ofChange fnResiduesSpec)

/-- ITS FALSE NEIGHBOUR: 'it returns false'. Refute it at one input. -/
def fnResiduesWrong : ChangeSpec := { name := "fnResidues", vars := ["loop.example/g01165/impl.errRowLength", "loop.example/g01165/impl.errNoResult"], fn := fun _ => fun
  | [d1, d2, g1, g2] => { results := [.lit (.bool false)], args := [d1, d2], vars := [g1, g2] }
  | _ => none }
def FnResiduesWrongFalsely : Prop := fnResiduesRow.holds Tryd.pinned (OpenSpec.ofChange fnResiduesWrong)

/- THE SECOND FORM. 'bulk': how many values and letters a reading holds, each counted each time it is reached (what is shared counts as often as it is met; a slice's spare places count too). A statement '..UptoSaid' is the law's where the arguments, and the package variables that the reading takes, are together of bulk at most 1048576: NARROWER than '..Said'. Prove '..Said' where nothing that the law and all that it calls make is longer than what came in: it says more and counts as full. Else prove '..UptoSaid'. A law counts once. -/
mutual
def uptoBulk {H : Type} : DataW H → Nat
  | .lit (.string bytes) => bytes.length + 1
  | .lit _ => 1
  | .nil => 1
  | .ptr d => uptoBulk d + 1
  | .slice elems spare => uptoBulkAll elems + uptoBulkAll spare + 1
  | .agg parts => uptoBulkAll parts + 1
  | .iface _ d => uptoBulk d + 1
  | .map entries => uptoBulkEntries entries + 1
  | .held _ => 1
def uptoBulkAll {H : Type} : List (DataW H) → Nat
  | [] => 0
  | d :: r => uptoBulk d + uptoBulkAll r
def uptoBulkEntries {H : Type} : List (Lit × DataW H) → Nat
  | [] => 0
  | x :: r => uptoBulkEntry x + uptoBulkEntries r
def uptoBulkEntry {H : Type} : Lit × DataW H → Nat
  | (.string bytes, d) => bytes.length + uptoBulk d + 1
  | (_, d) => uptoBulk d + 1
 end
def uptoSmall : (H : Type) → List (DataW H) → Bool := fun _ ds => decide (uptoBulkAll ds ≤ 1048576)
def OpenSpec.upto (s : _root_.Go.ChangeSpec) : _root_.Go.OpenSpec := { _root_.Go.OpenSpec.ofChange s with cond := some uptoSmall }

/-- 'laws.FnExactResidueOf', WHERE WHAT IT READS IS OF BULK AT MOST 1048576: true; the input reads as it did. -/
def fnExactResidueOfUptoRow : OpenClaim := { program := "ytnmnlbgialolhaadoor", sum := "abb069f8ee415132bca210c2db3e37ca0de762ee55dedb7ccb2972b909f43d33", func := "loop.example/g01165/laws.FnExactResidueOf", spec := "fnExactResidueOf", unfollowed := true, recurses := true, named := ["loop.example/g01165/impl.errRowLength", "loop.example/g01165/impl.errNoResult", "bytes.ErrTooLarge"], ifaces := true, apart := false, laid := [("bytes.ErrTooLarge", laid_bytes_ErrTooLarge), ("loop.example/g01165/impl.errRowLength", laid_loop_example_g01165_impl_errRowLength), ("loop.example/g01165/impl.errNoResult", laid_loop_example_g01165_impl_errNoResult)], narrowed := true }
def FnExactResidueOfUptoSaid : Prop := fnExactResidueOfUptoRow.holds Tryd.pinned (OpenSpec.upto fnExactResidueOfSpec)

/-- 'laws.FnExactFromResidue', WHERE WHAT IT READS IS OF BULK AT MOST 1048576: true; the input reads as it did. -/
def fnExactFromResidueUptoRow : OpenClaim := { program := "ytnmnlbgialolhaadoor", sum := "abb069f8ee415132bca210c2db3e37ca0de762ee55dedb7ccb2972b909f43d33", func := "loop.example/g01165/laws.FnExactFromResidue", spec := "fnExactFromResidue", unfollowed := true, recurses := true, named := ["loop.example/g01165/impl.errRowLength", "loop.example/g01165/impl.errNoResult", "bytes.ErrTooLarge"], ifaces := true, apart := false, laid := [("bytes.ErrTooLarge", laid_bytes_ErrTooLarge), ("loop.example/g01165/impl.errRowLength", laid_loop_example_g01165_impl_errRowLength), ("loop.example/g01165/impl.errNoResult", laid_loop_example_g01165_impl_errNoResult)], narrowed := true }
def FnExactFromResidueUptoSaid : Prop := fnExactFromResidueUptoRow.holds Tryd.pinned (OpenSpec.upto fnExactFromResidueSpec)

/-- 'laws.FnExactGreyOfPicture', WHERE WHAT IT READS IS OF BULK AT MOST 1048576: true; the input reads as it did. -/
def fnExactGreyOfPictureUptoRow : OpenClaim := { program := "ytnmnlbgialolhaadoor", sum := "abb069f8ee415132bca210c2db3e37ca0de762ee55dedb7ccb2972b909f43d33", func := "loop.example/g01165/laws.FnExactGreyOfPicture", spec := "fnExactGreyOfPicture", unfollowed := true, recurses := true, named := ["loop.example/g01165/impl.errRowLength", "loop.example/g01165/impl.errNoResult"], ifaces := true, apart := false, laid := [("loop.example/g01165/impl.errRowLength", laid_loop_example_g01165_impl_errRowLength), ("loop.example/g01165/impl.errNoResult", laid_loop_example_g01165_impl_errNoResult)], narrowed := true }
def FnExactGreyOfPictureUptoSaid : Prop := fnExactGreyOfPictureUptoRow.holds Tryd.pinned (OpenSpec.upto fnExactGreyOfPictureSpec)

/-- 'laws.FnExactMeanError', WHERE WHAT IT READS IS OF BULK AT MOST 1048576: true; the input reads as it did. -/
def fnExactMeanErrorUptoRow : OpenClaim := { program := "ytnmnlbgialolhaadoor", sum := "abb069f8ee415132bca210c2db3e37ca0de762ee55dedb7ccb2972b909f43d33", func := "loop.example/g01165/laws.FnExactMeanError", spec := "fnExactMeanError", unfollowed := true, recurses := true, named := ["loop.example/g01165/impl.errNoResult", "loop.example/g01165/impl.errRowLength"], ifaces := true, apart := false, laid := [("loop.example/g01165/impl.errRowLength", laid_loop_example_g01165_impl_errRowLength), ("loop.example/g01165/impl.errNoResult", laid_loop_example_g01165_impl_errNoResult)], narrowed := true }
def FnExactMeanErrorUptoSaid : Prop := fnExactMeanErrorUptoRow.holds Tryd.pinned (OpenSpec.upto fnExactMeanErrorSpec)

/-- 'laws.FnExactOrderedGrey', WHERE WHAT IT READS IS OF BULK AT MOST 1048576: true; the input reads as it did. -/
def fnExactOrderedGreyUptoRow : OpenClaim := { program := "ytnmnlbgialolhaadoor", sum := "abb069f8ee415132bca210c2db3e37ca0de762ee55dedb7ccb2972b909f43d33", func := "loop.example/g01165/laws.FnExactOrderedGrey", spec := "fnExactOrderedGrey", unfollowed := true, recurses := true, named := ["loop.example/g01165/impl.places", "loop.example/g01165/impl.errNoResult", "bytes.ErrTooLarge"], ifaces := true, apart := false, laid := [("bytes.ErrTooLarge", laid_bytes_ErrTooLarge), ("loop.example/g01165/impl.errNoResult", laid_loop_example_g01165_impl_errNoResult), ("loop.example/g01165/impl.places", laid_loop_example_g01165_impl_places)], narrowed := true }
def FnExactOrderedGreyUptoSaid : Prop := fnExactOrderedGreyUptoRow.holds Tryd.pinned (OpenSpec.upto fnExactOrderedGreySpec)

/-- 'laws.FnExactSpreadGrey', WHERE WHAT IT READS IS OF BULK AT MOST 1048576: true; the input reads as it did. -/
def fnExactSpreadGreyUptoRow : OpenClaim := { program := "ytnmnlbgialolhaadoor", sum := "abb069f8ee415132bca210c2db3e37ca0de762ee55dedb7ccb2972b909f43d33", func := "loop.example/g01165/laws.FnExactSpreadGrey", spec := "fnExactSpreadGrey", unfollowed := true, recurses := true, named := ["loop.example/g01165/impl.errNoResult", "loop.example/g01165/impl.roundedShares", "loop.example/g01165/impl.restMove", "bytes.ErrTooLarge"], ifaces := true, apart := false, laid := [("bytes.ErrTooLarge", laid_bytes_ErrTooLarge), ("loop.example/g01165/impl.errNoResult", laid_loop_example_g01165_impl_errNoResult), ("loop.example/g01165/impl.roundedShares", laid_loop_example_g01165_impl_roundedShares), ("loop.example/g01165/impl.restMove", laid_loop_example_g01165_impl_restMove)], narrowed := true }
def FnExactSpreadGreyUptoSaid : Prop := fnExactSpreadGreyUptoRow.holds Tryd.pinned (OpenSpec.upto fnExactSpreadGreySpec)

/-- 'laws.FnResidues', WHERE WHAT IT READS IS OF BULK AT MOST 1048576: true; the input reads as it did. -/
def fnResiduesUptoRow : OpenClaim := { program := "ytnmnlbgialolhaadoor", sum := "abb069f8ee415132bca210c2db3e37ca0de762ee55dedb7ccb2972b909f43d33", func := "loop.example/g01165/laws.FnResidues", spec := "fnResidues", unfollowed := true, recurses := true, named := ["loop.example/g01165/impl.errRowLength", "loop.example/g01165/impl.errNoResult", "bytes.ErrTooLarge"], ifaces := true, apart := false, laid := [("bytes.ErrTooLarge", laid_bytes_ErrTooLarge), ("loop.example/g01165/impl.errRowLength", laid_loop_example_g01165_impl_errRowLength), ("loop.example/g01165/impl.errNoResult", laid_loop_example_g01165_impl_errNoResult)], narrowed := true }
def FnResiduesUptoSaid : Prop := fnResiduesUptoRow.holds Tryd.pinned (OpenSpec.upto fnResiduesSpec)

end Rows
end Go.Proofs.YtnmnlbgialolhaaDoor
