/-
  NARROWER THAN 'FOR EVERY INPUT', by the rows' own cells (each row's printed sentence says how): FnExactValidPicture: ifaces, laid · FnExactBlankPicture: laid · FnExactPixelAt: ifaces, laid · FnExactSetPixel: ifaces, laid · FnExactCountBlack: ifaces, laid · FnExactSpotsOf: ifaces, laid · FnExactPictureFrom: laid · FnExactInvertPicture: ifaces, laid · FnExactJoinPictures: ifaces, laid · FnExactCropPicture: ifaces, laid · FnExactIsInside: ifaces, laid · FnExactPictureText: ifaces, laid.
  DERIVED. THE GIVEN ROWS OF THIS SEAT. 12 by the template 'for every input the law returns true; each argument reads behind the call as it read before'; 0 by the template 'total and deterministic' (their statements: YtchcmbgbndccmaaDoorTotals.lean).
  GIVEN WITH THE SEED: the statements are not yours to turn. If you find one false, say at which input.
  Laid BY PROGRAM, IN A SANDBOX (cutbox-rows.mjs): the forced cells as the released guide's own fill.sh prints them over the translation 41a956696ac93585… (all of the seat's roots in one cut). By AI agents, Wed Nov 11 2026. No macro, syntax, notation, axiom, sorry.
-/
import Derived.Test.YtchcmbgbndccmaaDoorChecked
import GoSem.Claim
import GoSem.ClaimJoined
import GoSem.ClaimMapViews
import Derived.JoinedTies
import Derived.KernelRfl
namespace Go.Proofs.YtchcmbgbndccmaaDoor
/- THE CELL 'sum', in the pinned program and in every row, IS THE sha256 OF THE DUMP (.gsa) THAT YtchcmbgbndccmaaDoorProg.lean LOADS. Nothing in Lean hashes anything: it is a label: what it is worth is what the hold of that sum in a sandbox is worth. -/
noncomputable def Tryd.pinned : Pinned := { name := "ytchcmbgbndccmaadoor", sum := "41a956696ac93585fa066a26635d69f90d225b571edc09479839c862795b4b80", checked := Tryd.checked }
namespace Rows
def none {H : Type} : Left H := { results := [], args := [] }

/- WHAT THE LISTED PACKAGE-LEVEL VARIABLES READ AS WHEN THE CALL BEGINS. Each datum BY PROGRAM (the guide's laid-datum.mjs) off the statement by which the dump's own 'gosem.cut.vars' lays the variable. In a bare row this is a premise. The card (YtchcmbgbndccmaaDoorCards.lean) ties it to the program's text. -/
def laid_loop_example_g01165_impl_errRowLength {H : Type} : DataW H := .iface "*errors.errorString" (.ptr (.agg [.lit (.string [97, 32, 114, 111, 119, 32, 104, 97, 115, 32, 110, 111, 32, 112, 105, 120, 101, 108, 115, 44, 32, 111, 114, 32, 116, 111, 111, 32, 109, 97, 110, 121])]))
def laid_bytes_ErrTooLarge {H : Type} : DataW H := .iface "*errors.errorString" (.ptr (.agg [.lit (.string [98, 121, 116, 101, 115, 46, 66, 117, 102, 102, 101, 114, 58, 32, 116, 111, 111, 32, 108, 97, 114, 103, 101])]))

/-- 'laws.FnExactValidPicture': WHATEVER THE INPUT: true; the input reads as it did. -/
def fnExactValidPictureSpec : ChangeSpec := { name := "fnExactValidPicture", vars := ["loop.example/g01165/impl.errRowLength"], fn := fun _ => fun
  | [d, g1] => { results := [.lit (.bool true)], args := [d], vars := [g1] }
  | _ => none }
def fnExactValidPictureRow : OpenClaim := { program := "ytchcmbgbndccmaadoor", sum := "41a956696ac93585fa066a26635d69f90d225b571edc09479839c862795b4b80", func := "loop.example/g01165/laws.FnExactValidPicture", spec := "fnExactValidPicture", named := ["loop.example/g01165/impl.errRowLength"], ifaces := true, apart := false, laid := [("loop.example/g01165/impl.errRowLength", laid_loop_example_g01165_impl_errRowLength)] }
def FnExactValidPictureSaid : Prop := fnExactValidPictureRow.holds Tryd.pinned (OpenSpec.ofChange fnExactValidPictureSpec)

/-- ITS FALSE NEIGHBOUR: 'it returns false'. Refute it at one input. -/
def fnExactValidPictureWrong : ChangeSpec := { name := "fnExactValidPicture", vars := ["loop.example/g01165/impl.errRowLength"], fn := fun _ => fun
  | [d, g1] => { results := [.lit (.bool false)], args := [d], vars := [g1] }
  | _ => none }
def FnExactValidPictureWrongFalsely : Prop := fnExactValidPictureRow.holds Tryd.pinned (OpenSpec.ofChange fnExactValidPictureWrong)

/-- 'laws.FnExactBlankPicture': WHATEVER THE INPUT: true; the input reads as it did. -/
def fnExactBlankPictureSpec : ChangeSpec := { name := "fnExactBlankPicture", fn := fun _ => fun
  | [d1, d2] => { results := [.lit (.bool true)], args := [d1, d2] }
  | _ => none }
def fnExactBlankPictureRow : OpenClaim := { program := "ytchcmbgbndccmaadoor", sum := "41a956696ac93585fa066a26635d69f90d225b571edc09479839c862795b4b80", func := "loop.example/g01165/laws.FnExactBlankPicture", spec := "fnExactBlankPicture", named := ["bytes.ErrTooLarge"], apart := false, laid := [("bytes.ErrTooLarge", laid_bytes_ErrTooLarge)] }
def FnExactBlankPictureSaid : Prop := fnExactBlankPictureRow.holds Tryd.pinned (OpenSpec.ofChange fnExactBlankPictureSpec)

/-- ITS FALSE NEIGHBOUR: 'it returns false'. Refute it at one input. -/
def fnExactBlankPictureWrong : ChangeSpec := { name := "fnExactBlankPicture", fn := fun _ => fun
  | [d1, d2] => { results := [.lit (.bool false)], args := [d1, d2] }
  | _ => none }
def FnExactBlankPictureWrongFalsely : Prop := fnExactBlankPictureRow.holds Tryd.pinned (OpenSpec.ofChange fnExactBlankPictureWrong)

/-- 'laws.FnExactPixelAt': WHATEVER THE INPUT: true; the input reads as it did. -/
def fnExactPixelAtSpec : ChangeSpec := { name := "fnExactPixelAt", vars := ["loop.example/g01165/impl.errRowLength"], fn := fun _ => fun
  | [d1, d2, d3, g1] => { results := [.lit (.bool true)], args := [d1, d2, d3], vars := [g1] }
  | _ => none }
def fnExactPixelAtRow : OpenClaim := { program := "ytchcmbgbndccmaadoor", sum := "41a956696ac93585fa066a26635d69f90d225b571edc09479839c862795b4b80", func := "loop.example/g01165/laws.FnExactPixelAt", spec := "fnExactPixelAt", named := ["loop.example/g01165/impl.errRowLength"], ifaces := true, apart := false, laid := [("loop.example/g01165/impl.errRowLength", laid_loop_example_g01165_impl_errRowLength)] }
def FnExactPixelAtSaid : Prop := fnExactPixelAtRow.holds Tryd.pinned (OpenSpec.ofChange fnExactPixelAtSpec)

/-- ITS FALSE NEIGHBOUR: 'it returns false'. Refute it at one input. -/
def fnExactPixelAtWrong : ChangeSpec := { name := "fnExactPixelAt", vars := ["loop.example/g01165/impl.errRowLength"], fn := fun _ => fun
  | [d1, d2, d3, g1] => { results := [.lit (.bool false)], args := [d1, d2, d3], vars := [g1] }
  | _ => none }
def FnExactPixelAtWrongFalsely : Prop := fnExactPixelAtRow.holds Tryd.pinned (OpenSpec.ofChange fnExactPixelAtWrong)

/-- 'laws.FnExactSetPixel': WHATEVER THE INPUT: true; the input reads as it did. -/
def fnExactSetPixelSpec : ChangeSpec := { name := "fnExactSetPixel", vars := ["loop.example/g01165/impl.errRowLength"], fn := fun _ => fun
  | [d1, d2, d3, d4, g1] => { results := [.lit (.bool true)], args := [d1, d2, d3, d4], vars := [g1] }
  | _ => none }
def fnExactSetPixelRow : OpenClaim := { program := "ytchcmbgbndccmaadoor", sum := "41a956696ac93585fa066a26635d69f90d225b571edc09479839c862795b4b80", func := "loop.example/g01165/laws.FnExactSetPixel", spec := "fnExactSetPixel", named := ["loop.example/g01165/impl.errRowLength", "bytes.ErrTooLarge"], ifaces := true, apart := false, laid := [("bytes.ErrTooLarge", laid_bytes_ErrTooLarge), ("loop.example/g01165/impl.errRowLength", laid_loop_example_g01165_impl_errRowLength)] }
def FnExactSetPixelSaid : Prop := fnExactSetPixelRow.holds Tryd.pinned (OpenSpec.ofChange fnExactSetPixelSpec)

/-- ITS FALSE NEIGHBOUR: 'it returns false'. Refute it at one input. -/
def fnExactSetPixelWrong : ChangeSpec := { name := "fnExactSetPixel", vars := ["loop.example/g01165/impl.errRowLength"], fn := fun _ => fun
  | [d1, d2, d3, d4, g1] => { results := [.lit (.bool false)], args := [d1, d2, d3, d4], vars := [g1] }
  | _ => none }
def FnExactSetPixelWrongFalsely : Prop := fnExactSetPixelRow.holds Tryd.pinned (OpenSpec.ofChange fnExactSetPixelWrong)

/-- 'laws.FnExactCountBlack': WHATEVER THE INPUT: true; the input reads as it did. -/
def fnExactCountBlackSpec : ChangeSpec := { name := "fnExactCountBlack", vars := ["loop.example/g01165/impl.errRowLength"], fn := fun _ => fun
  | [d, g1] => { results := [.lit (.bool true)], args := [d], vars := [g1] }
  | _ => none }
def fnExactCountBlackRow : OpenClaim := { program := "ytchcmbgbndccmaadoor", sum := "41a956696ac93585fa066a26635d69f90d225b571edc09479839c862795b4b80", func := "loop.example/g01165/laws.FnExactCountBlack", spec := "fnExactCountBlack", named := ["loop.example/g01165/impl.errRowLength"], ifaces := true, apart := false, laid := [("loop.example/g01165/impl.errRowLength", laid_loop_example_g01165_impl_errRowLength)] }
def FnExactCountBlackSaid : Prop := fnExactCountBlackRow.holds Tryd.pinned (OpenSpec.ofChange fnExactCountBlackSpec)

/-- ITS FALSE NEIGHBOUR: 'it returns false'. Refute it at one input. -/
def fnExactCountBlackWrong : ChangeSpec := { name := "fnExactCountBlack", vars := ["loop.example/g01165/impl.errRowLength"], fn := fun _ => fun
  | [d, g1] => { results := [.lit (.bool false)], args := [d], vars := [g1] }
  | _ => none }
def FnExactCountBlackWrongFalsely : Prop := fnExactCountBlackRow.holds Tryd.pinned (OpenSpec.ofChange fnExactCountBlackWrong)

/-- 'laws.FnExactSpotsOf': WHATEVER THE INPUT: true; the input reads as it did. -/
def fnExactSpotsOfSpec : ChangeSpec := { name := "fnExactSpotsOf", vars := ["loop.example/g01165/impl.errRowLength"], fn := fun _ => fun
  | [d, g1] => { results := [.lit (.bool true)], args := [d], vars := [g1] }
  | _ => none }
def fnExactSpotsOfRow : OpenClaim := { program := "ytchcmbgbndccmaadoor", sum := "41a956696ac93585fa066a26635d69f90d225b571edc09479839c862795b4b80", func := "loop.example/g01165/laws.FnExactSpotsOf", spec := "fnExactSpotsOf", named := ["loop.example/g01165/impl.errRowLength"], ifaces := true, apart := false, laid := [("loop.example/g01165/impl.errRowLength", laid_loop_example_g01165_impl_errRowLength)] }
def FnExactSpotsOfSaid : Prop := fnExactSpotsOfRow.holds Tryd.pinned (OpenSpec.ofChange fnExactSpotsOfSpec)

/-- ITS FALSE NEIGHBOUR: 'it returns false'. Refute it at one input. -/
def fnExactSpotsOfWrong : ChangeSpec := { name := "fnExactSpotsOf", vars := ["loop.example/g01165/impl.errRowLength"], fn := fun _ => fun
  | [d, g1] => { results := [.lit (.bool false)], args := [d], vars := [g1] }
  | _ => none }
def FnExactSpotsOfWrongFalsely : Prop := fnExactSpotsOfRow.holds Tryd.pinned (OpenSpec.ofChange fnExactSpotsOfWrong)

/-- 'laws.FnExactPictureFrom': WHATEVER THE INPUT: true; the input reads as it did. -/
def fnExactPictureFromSpec : ChangeSpec := { name := "fnExactPictureFrom", fn := fun _ => fun
  | [d1, d2, d3] => { results := [.lit (.bool true)], args := [d1, d2, d3] }
  | _ => none }
def fnExactPictureFromRow : OpenClaim := { program := "ytchcmbgbndccmaadoor", sum := "41a956696ac93585fa066a26635d69f90d225b571edc09479839c862795b4b80", func := "loop.example/g01165/laws.FnExactPictureFrom", spec := "fnExactPictureFrom", named := ["bytes.ErrTooLarge"], apart := false, laid := [("bytes.ErrTooLarge", laid_bytes_ErrTooLarge)] }
def FnExactPictureFromSaid : Prop := fnExactPictureFromRow.holds Tryd.pinned (OpenSpec.ofChange fnExactPictureFromSpec)

/-- ITS FALSE NEIGHBOUR: 'it returns false'. Refute it at one input. -/
def fnExactPictureFromWrong : ChangeSpec := { name := "fnExactPictureFrom", fn := fun _ => fun
  | [d1, d2, d3] => { results := [.lit (.bool false)], args := [d1, d2, d3] }
  | _ => none }
def FnExactPictureFromWrongFalsely : Prop := fnExactPictureFromRow.holds Tryd.pinned (OpenSpec.ofChange fnExactPictureFromWrong)

/-- 'laws.FnExactInvertPicture': WHATEVER THE INPUT: true; the input reads as it did. -/
def fnExactInvertPictureSpec : ChangeSpec := { name := "fnExactInvertPicture", vars := ["loop.example/g01165/impl.errRowLength"], fn := fun _ => fun
  | [d, g1] => { results := [.lit (.bool true)], args := [d], vars := [g1] }
  | _ => none }
def fnExactInvertPictureRow : OpenClaim := { program := "ytchcmbgbndccmaadoor", sum := "41a956696ac93585fa066a26635d69f90d225b571edc09479839c862795b4b80", func := "loop.example/g01165/laws.FnExactInvertPicture", spec := "fnExactInvertPicture", named := ["loop.example/g01165/impl.errRowLength", "bytes.ErrTooLarge"], ifaces := true, apart := false, laid := [("bytes.ErrTooLarge", laid_bytes_ErrTooLarge), ("loop.example/g01165/impl.errRowLength", laid_loop_example_g01165_impl_errRowLength)] }
def FnExactInvertPictureSaid : Prop := fnExactInvertPictureRow.holds Tryd.pinned (OpenSpec.ofChange fnExactInvertPictureSpec)

/-- ITS FALSE NEIGHBOUR: 'it returns false'. Refute it at one input. -/
def fnExactInvertPictureWrong : ChangeSpec := { name := "fnExactInvertPicture", vars := ["loop.example/g01165/impl.errRowLength"], fn := fun _ => fun
  | [d, g1] => { results := [.lit (.bool false)], args := [d], vars := [g1] }
  | _ => none }
def FnExactInvertPictureWrongFalsely : Prop := fnExactInvertPictureRow.holds Tryd.pinned (OpenSpec.ofChange fnExactInvertPictureWrong)

/-- 'laws.FnExactJoinPictures': WHATEVER THE INPUT: true; the input reads as it did. -/
def fnExactJoinPicturesSpec : ChangeSpec := { name := "fnExactJoinPictures", vars := ["loop.example/g01165/impl.errRowLength"], fn := fun _ => fun
  | [d1, d2, d3, g1] => { results := [.lit (.bool true)], args := [d1, d2, d3], vars := [g1] }
  | _ => none }
def fnExactJoinPicturesRow : OpenClaim := { program := "ytchcmbgbndccmaadoor", sum := "41a956696ac93585fa066a26635d69f90d225b571edc09479839c862795b4b80", func := "loop.example/g01165/laws.FnExactJoinPictures", spec := "fnExactJoinPictures", named := ["loop.example/g01165/impl.errRowLength", "bytes.ErrTooLarge"], ifaces := true, apart := false, laid := [("bytes.ErrTooLarge", laid_bytes_ErrTooLarge), ("loop.example/g01165/impl.errRowLength", laid_loop_example_g01165_impl_errRowLength)] }
def FnExactJoinPicturesSaid : Prop := fnExactJoinPicturesRow.holds Tryd.pinned (OpenSpec.ofChange fnExactJoinPicturesSpec)

/-- ITS FALSE NEIGHBOUR: 'it returns false'. Refute it at one input. -/
def fnExactJoinPicturesWrong : ChangeSpec := { name := "fnExactJoinPictures", vars := ["loop.example/g01165/impl.errRowLength"], fn := fun _ => fun
  | [d1, d2, d3, g1] => { results := [.lit (.bool false)], args := [d1, d2, d3], vars := [g1] }
  | _ => none }
def FnExactJoinPicturesWrongFalsely : Prop := fnExactJoinPicturesRow.holds Tryd.pinned (OpenSpec.ofChange fnExactJoinPicturesWrong)

/-- 'laws.FnExactCropPicture': WHATEVER THE INPUT: true; the input reads as it did. -/
def fnExactCropPictureSpec : ChangeSpec := { name := "fnExactCropPicture", vars := ["loop.example/g01165/impl.errRowLength"], fn := fun _ => fun
  | [d1, d2, d3, d4, g1] => { results := [.lit (.bool true)], args := [d1, d2, d3, d4], vars := [g1] }
  | _ => none }
def fnExactCropPictureRow : OpenClaim := { program := "ytchcmbgbndccmaadoor", sum := "41a956696ac93585fa066a26635d69f90d225b571edc09479839c862795b4b80", func := "loop.example/g01165/laws.FnExactCropPicture", spec := "fnExactCropPicture", named := ["loop.example/g01165/impl.errRowLength", "bytes.ErrTooLarge"], ifaces := true, apart := false, laid := [("bytes.ErrTooLarge", laid_bytes_ErrTooLarge), ("loop.example/g01165/impl.errRowLength", laid_loop_example_g01165_impl_errRowLength)] }
def FnExactCropPictureSaid : Prop := fnExactCropPictureRow.holds Tryd.pinned (OpenSpec.ofChange fnExactCropPictureSpec)

/-- ITS FALSE NEIGHBOUR: 'it returns false'. Refute it at one input. -/
def fnExactCropPictureWrong : ChangeSpec := { name := "fnExactCropPicture", vars := ["loop.example/g01165/impl.errRowLength"], fn := fun _ => fun
  | [d1, d2, d3, d4, g1] => { results := [.lit (.bool false)], args := [d1, d2, d3, d4], vars := [g1] }
  | _ => none }
def FnExactCropPictureWrongFalsely : Prop := fnExactCropPictureRow.holds Tryd.pinned (OpenSpec.ofChange fnExactCropPictureWrong)

/-- 'laws.FnExactIsInside': WHATEVER THE INPUT: true; the input reads as it did. -/
def fnExactIsInsideSpec : ChangeSpec := { name := "fnExactIsInside", vars := ["loop.example/g01165/impl.errRowLength"], fn := fun _ => fun
  | [d1, d2, g1] => { results := [.lit (.bool true)], args := [d1, d2], vars := [g1] }
  | _ => none }
def fnExactIsInsideRow : OpenClaim := { program := "ytchcmbgbndccmaadoor", sum := "41a956696ac93585fa066a26635d69f90d225b571edc09479839c862795b4b80", func := "loop.example/g01165/laws.FnExactIsInside", spec := "fnExactIsInside", named := ["loop.example/g01165/impl.errRowLength"], ifaces := true, apart := false, laid := [("loop.example/g01165/impl.errRowLength", laid_loop_example_g01165_impl_errRowLength)] }
def FnExactIsInsideSaid : Prop := fnExactIsInsideRow.holds Tryd.pinned (OpenSpec.ofChange fnExactIsInsideSpec)

/-- ITS FALSE NEIGHBOUR: 'it returns false'. Refute it at one input. -/
def fnExactIsInsideWrong : ChangeSpec := { name := "fnExactIsInside", vars := ["loop.example/g01165/impl.errRowLength"], fn := fun _ => fun
  | [d1, d2, g1] => { results := [.lit (.bool false)], args := [d1, d2], vars := [g1] }
  | _ => none }
def FnExactIsInsideWrongFalsely : Prop := fnExactIsInsideRow.holds Tryd.pinned (OpenSpec.ofChange fnExactIsInsideWrong)

/-- 'laws.FnExactPictureText': WHATEVER THE INPUT: true; the input reads as it did. -/
def fnExactPictureTextSpec : ChangeSpec := { name := "fnExactPictureText", vars := ["loop.example/g01165/impl.errRowLength"], fn := fun _ => fun
  | [d, g1] => { results := [.lit (.bool true)], args := [d], vars := [g1] }
  | _ => none }
def fnExactPictureTextRow : OpenClaim := { program := "ytchcmbgbndccmaadoor", sum := "41a956696ac93585fa066a26635d69f90d225b571edc09479839c862795b4b80", func := "loop.example/g01165/laws.FnExactPictureText", spec := "fnExactPictureText", named := ["loop.example/g01165/impl.errRowLength", "bytes.ErrTooLarge"], ifaces := true, apart := false, laid := [("bytes.ErrTooLarge", laid_bytes_ErrTooLarge), ("loop.example/g01165/impl.errRowLength", laid_loop_example_g01165_impl_errRowLength)] }
def FnExactPictureTextSaid : Prop := fnExactPictureTextRow.holds Tryd.pinned (OpenSpec.ofChange fnExactPictureTextSpec)

/-- ITS FALSE NEIGHBOUR: 'it returns false'. Refute it at one input. -/
def fnExactPictureTextWrong : ChangeSpec := { name := "fnExactPictureText", vars := ["loop.example/g01165/impl.errRowLength"], fn := fun _ => fun
  | [d, g1] => { results := [.lit (.bool false)], args := [d], vars := [g1] }
  | _ => none }
def FnExactPictureTextWrongFalsely : Prop := fnExactPictureTextRow.holds Tryd.pinned (OpenSpec.ofChange fnExactPictureTextWrong)

/- THE SECOND FORM. 'bulk': how many values and letters a reading holds, each counted each time it is reached (what is shared counts as often as it is met; a slice's spare places count too). A statement '..UptoSaid' is the law's where the arguments, and the package variables that the reading takes, are together of bulk at most 1048576: NARROWER than '..Said'. Prove '..Said' where nothing that the law and all that it calls make is longer than what came in: it says more and counts as full. Else prove '..UptoSaid'. A law counts once. -/
mutual
def uptoBulk {H : Type} : DataW H → Nat
  | .lit (.string bytes) => bytes.length + 1
  | .lit _ => 1
  | .nil => 1
  | .ptr d => uptoBulk d + 1
  | .slice elems spare => uptoBulkAll elems + uptoBulkAll spare + 1
  | .agg parts => uptoBulkAll parts + 1
  | .iface _ d => uptoBulk d + 1
  | .map entries => uptoBulkEntries entries + 1
  | .held _ => 1
def uptoBulkAll {H : Type} : List (DataW H) → Nat
  | [] => 0
  | d :: r => uptoBulk d + uptoBulkAll r
def uptoBulkEntries {H : Type} : List (Lit × DataW H) → Nat
  | [] => 0
  | x :: r => uptoBulkEntry x + uptoBulkEntries r
def uptoBulkEntry {H : Type} : Lit × DataW H → Nat
  | (.string bytes, d) => bytes.length + uptoBulk d + 1
  | (_, d) => uptoBulk d + 1
 end
def uptoSmall : (H : Type) → List (DataW H) → Bool := fun _ ds => decide (uptoBulkAll ds ≤ 1048576)
def OpenSpec.upto (s : _root_.Go.ChangeSpec) : _root_.Go.OpenSpec := { _root_.Go.OpenSpec.ofChange s with cond := some uptoSmall }

/-- 'laws.FnExactValidPicture', WHERE WHAT IT READS IS OF BULK AT MOST 1048576: true; the input reads as it did. -/
def fnExactValidPictureUptoRow : OpenClaim := { program := "ytchcmbgbndccmaadoor", sum := "41a956696ac93585fa066a26635d69f90d225b571edc09479839c862795b4b80", func := "loop.example/g01165/laws.FnExactValidPicture", spec := "fnExactValidPicture", named := ["loop.example/g01165/impl.errRowLength"], ifaces := true, apart := false, laid := [("loop.example/g01165/impl.errRowLength", laid_loop_example_g01165_impl_errRowLength)], narrowed := true }
def FnExactValidPictureUptoSaid : Prop := fnExactValidPictureUptoRow.holds Tryd.pinned (OpenSpec.upto fnExactValidPictureSpec)

/-- 'laws.FnExactBlankPicture', WHERE WHAT IT READS IS OF BULK AT MOST 1048576: true; the input reads as it did. -/
def fnExactBlankPictureUptoRow : OpenClaim := { program := "ytchcmbgbndccmaadoor", sum := "41a956696ac93585fa066a26635d69f90d225b571edc09479839c862795b4b80", func := "loop.example/g01165/laws.FnExactBlankPicture", spec := "fnExactBlankPicture", named := ["bytes.ErrTooLarge"], apart := false, laid := [("bytes.ErrTooLarge", laid_bytes_ErrTooLarge)], narrowed := true }
def FnExactBlankPictureUptoSaid : Prop := fnExactBlankPictureUptoRow.holds Tryd.pinned (OpenSpec.upto fnExactBlankPictureSpec)

/-- 'laws.FnExactPixelAt', WHERE WHAT IT READS IS OF BULK AT MOST 1048576: true; the input reads as it did. -/
def fnExactPixelAtUptoRow : OpenClaim := { program := "ytchcmbgbndccmaadoor", sum := "41a956696ac93585fa066a26635d69f90d225b571edc09479839c862795b4b80", func := "loop.example/g01165/laws.FnExactPixelAt", spec := "fnExactPixelAt", named := ["loop.example/g01165/impl.errRowLength"], ifaces := true, apart := false, laid := [("loop.example/g01165/impl.errRowLength", laid_loop_example_g01165_impl_errRowLength)], narrowed := true }
def FnExactPixelAtUptoSaid : Prop := fnExactPixelAtUptoRow.holds Tryd.pinned (OpenSpec.upto fnExactPixelAtSpec)

/-- 'laws.FnExactSetPixel', WHERE WHAT IT READS IS OF BULK AT MOST 1048576: true; the input reads as it did. -/
def fnExactSetPixelUptoRow : OpenClaim := { program := "ytchcmbgbndccmaadoor", sum := "41a956696ac93585fa066a26635d69f90d225b571edc09479839c862795b4b80", func := "loop.example/g01165/laws.FnExactSetPixel", spec := "fnExactSetPixel", named := ["loop.example/g01165/impl.errRowLength", "bytes.ErrTooLarge"], ifaces := true, apart := false, laid := [("bytes.ErrTooLarge", laid_bytes_ErrTooLarge), ("loop.example/g01165/impl.errRowLength", laid_loop_example_g01165_impl_errRowLength)], narrowed := true }
def FnExactSetPixelUptoSaid : Prop := fnExactSetPixelUptoRow.holds Tryd.pinned (OpenSpec.upto fnExactSetPixelSpec)

/-- 'laws.FnExactCountBlack', WHERE WHAT IT READS IS OF BULK AT MOST 1048576: true; the input reads as it did. -/
def fnExactCountBlackUptoRow : OpenClaim := { program := "ytchcmbgbndccmaadoor", sum := "41a956696ac93585fa066a26635d69f90d225b571edc09479839c862795b4b80", func := "loop.example/g01165/laws.FnExactCountBlack", spec := "fnExactCountBlack", named := ["loop.example/g01165/impl.errRowLength"], ifaces := true, apart := false, laid := [("loop.example/g01165/impl.errRowLength", laid_loop_example_g01165_impl_errRowLength)], narrowed := true }
def FnExactCountBlackUptoSaid : Prop := fnExactCountBlackUptoRow.holds Tryd.pinned (OpenSpec.upto fnExactCountBlackSpec)

/-- 'laws.FnExactSpotsOf', WHERE WHAT IT READS IS OF BULK AT MOST 1048576: true; the input reads as it did. -/
def fnExactSpotsOfUptoRow : OpenClaim := { program := "ytchcmbgbndccmaadoor", sum := "41a956696ac93585fa066a26635d69f90d225b571edc09479839c862795b4b80", func := "loop.example/g01165/laws.FnExactSpotsOf", spec := "fnExactSpotsOf", named := ["loop.example/g01165/impl.errRowLength"], ifaces := true, apart := false, laid := [("loop.example/g01165/impl.errRowLength", laid_loop_example_g01165_impl_errRowLength)], narrowed := true }
def FnExactSpotsOfUptoSaid : Prop := fnExactSpotsOfUptoRow.holds Tryd.pinned (OpenSpec.upto fnExactSpotsOfSpec)

/-- 'laws.FnExactPictureFrom', WHERE WHAT IT READS IS OF BULK AT MOST 1048576: true; the input reads as it did. -/
def fnExactPictureFromUptoRow : OpenClaim := { program := "ytchcmbgbndccmaadoor", sum := "41a956696ac93585fa066a26635d69f90d225b571edc09479839c862795b4b80", func := "loop.example/g01165/laws.FnExactPictureFrom", spec := "fnExactPictureFrom", named := ["bytes.ErrTooLarge"], apart := false, laid := [("bytes.ErrTooLarge", laid_bytes_ErrTooLarge)], narrowed := true }
def FnExactPictureFromUptoSaid : Prop := fnExactPictureFromUptoRow.holds Tryd.pinned (OpenSpec.upto fnExactPictureFromSpec)

/-- 'laws.FnExactInvertPicture', WHERE WHAT IT READS IS OF BULK AT MOST 1048576: true; the input reads as it did. -/
def fnExactInvertPictureUptoRow : OpenClaim := { program := "ytchcmbgbndccmaadoor", sum := "41a956696ac93585fa066a26635d69f90d225b571edc09479839c862795b4b80", func := "loop.example/g01165/laws.FnExactInvertPicture", spec := "fnExactInvertPicture", named := ["loop.example/g01165/impl.errRowLength", "bytes.ErrTooLarge"], ifaces := true, apart := false, laid := [("bytes.ErrTooLarge", laid_bytes_ErrTooLarge), ("loop.example/g01165/impl.errRowLength", laid_loop_example_g01165_impl_errRowLength)], narrowed := true }
def FnExactInvertPictureUptoSaid : Prop := fnExactInvertPictureUptoRow.holds Tryd.pinned (OpenSpec.upto fnExactInvertPictureSpec)

/-- 'laws.FnExactJoinPictures', WHERE WHAT IT READS IS OF BULK AT MOST 1048576: true; the input reads as it did. -/
def fnExactJoinPicturesUptoRow : OpenClaim := { program := "ytchcmbgbndccmaadoor", sum := "41a956696ac93585fa066a26635d69f90d225b571edc09479839c862795b4b80", func := "loop.example/g01165/laws.FnExactJoinPictures", spec := "fnExactJoinPictures", named := ["loop.example/g01165/impl.errRowLength", "bytes.ErrTooLarge"], ifaces := true, apart := false, laid := [("bytes.ErrTooLarge", laid_bytes_ErrTooLarge), ("loop.example/g01165/impl.errRowLength", laid_loop_example_g01165_impl_errRowLength)], narrowed := true }
def FnExactJoinPicturesUptoSaid : Prop := fnExactJoinPicturesUptoRow.holds Tryd.pinned (OpenSpec.upto fnExactJoinPicturesSpec)

/-- 'laws.FnExactCropPicture', WHERE WHAT IT READS IS OF BULK AT MOST 1048576: true; the input reads as it did. -/
def fnExactCropPictureUptoRow : OpenClaim := { program := "ytchcmbgbndccmaadoor", sum := "41a956696ac93585fa066a26635d69f90d225b571edc09479839c862795b4b80", func := "loop.example/g01165/laws.FnExactCropPicture", spec := "fnExactCropPicture", named := ["loop.example/g01165/impl.errRowLength", "bytes.ErrTooLarge"], ifaces := true, apart := false, laid := [("bytes.ErrTooLarge", laid_bytes_ErrTooLarge), ("loop.example/g01165/impl.errRowLength", laid_loop_example_g01165_impl_errRowLength)], narrowed := true }
def FnExactCropPictureUptoSaid : Prop := fnExactCropPictureUptoRow.holds Tryd.pinned (OpenSpec.upto fnExactCropPictureSpec)

/-- 'laws.FnExactIsInside', WHERE WHAT IT READS IS OF BULK AT MOST 1048576: true; the input reads as it did. -/
def fnExactIsInsideUptoRow : OpenClaim := { program := "ytchcmbgbndccmaadoor", sum := "41a956696ac93585fa066a26635d69f90d225b571edc09479839c862795b4b80", func := "loop.example/g01165/laws.FnExactIsInside", spec := "fnExactIsInside", named := ["loop.example/g01165/impl.errRowLength"], ifaces := true, apart := false, laid := [("loop.example/g01165/impl.errRowLength", laid_loop_example_g01165_impl_errRowLength)], narrowed := true }
def FnExactIsInsideUptoSaid : Prop := fnExactIsInsideUptoRow.holds Tryd.pinned (OpenSpec.upto fnExactIsInsideSpec)

/-- 'laws.FnExactPictureText', WHERE WHAT IT READS IS OF BULK AT MOST 1048576: true; the input reads as it did. -/
def fnExactPictureTextUptoRow : OpenClaim := { program := "ytchcmbgbndccmaadoor", sum := "41a956696ac93585fa066a26635d69f90d225b571edc09479839c862795b4b80", func := "loop.example/g01165/laws.FnExactPictureText", spec := "fnExactPictureText", named := ["loop.example/g01165/impl.errRowLength", "bytes.ErrTooLarge"], ifaces := true, apart := false, laid := [("bytes.ErrTooLarge", laid_bytes_ErrTooLarge), ("loop.example/g01165/impl.errRowLength", laid_loop_example_g01165_impl_errRowLength)], narrowed := true }
def FnExactPictureTextUptoSaid : Prop := fnExactPictureTextUptoRow.holds Tryd.pinned (OpenSpec.upto fnExactPictureTextSpec)

end Rows
end Go.Proofs.YtchcmbgbndccmaaDoor
