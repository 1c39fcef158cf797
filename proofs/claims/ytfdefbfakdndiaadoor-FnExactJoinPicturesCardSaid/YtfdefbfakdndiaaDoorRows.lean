/-
  NARROWER THAN 'FOR EVERY INPUT', by the rows' own cells (each row's printed sentence says how): FnExactCountBlack: ifaces, laid · FnExactSpotsOf: ifaces, laid · FnExactPictureFrom: laid · FnExactJoinPictures: ifaces, laid · FnExactCropPicture: ifaces, laid · FnExactIsInside: ifaces, laid · FnExactPictureText: ifaces, laid · FnExactShiftPicture: ifaces, laid · FnExactTurnPicture: ifaces, laid · FnExactBoxOf: ifaces, laid.
  DERIVED. THE GIVEN ROWS OF THIS SEAT. 10 by the template 'for every input the law returns true; each argument reads behind the call as it read before'; 0 by the template 'total and deterministic' (their statements: YtfdefbfakdndiaaDoorTotals.lean).
  GIVEN WITH THE SEED: the statements are not yours to turn. If you find one false, say at which input.
  Laid BY PROGRAM, IN A SANDBOX (cutbox-rows.mjs): the forced cells as the released guide's own fill.sh prints them over the translation ffc610272966f334… (all of the seat's roots in one cut). By AI agents, Wed Nov 11 2026. No macro, syntax, notation, axiom, sorry.
-/
import Derived.Test.YtfdefbfakdndiaaDoorChecked
import GoSem.Claim
import GoSem.ClaimJoined
import GoSem.ClaimMapViews
import Derived.JoinedTies
import Derived.KernelRfl
namespace Go.Proofs.YtfdefbfakdndiaaDoor
/- THE CELL 'sum', in the pinned program and in every row, IS THE sha256 OF THE DUMP (.gsa) THAT YtfdefbfakdndiaaDoorProg.lean LOADS. Nothing in Lean hashes anything: it is a label: what it is worth is what the hold of that sum in a sandbox is worth. -/
noncomputable def Tryd.pinned : Pinned := { name := "ytfdefbfakdndiaadoor", sum := "ffc610272966f3346eb24e1e1528c6ee1c09a66d5a505a562bde54205b6ba9be", checked := Tryd.checked }
namespace Rows
def none {H : Type} : Left H := { results := [], args := [] }

/- WHAT THE LISTED PACKAGE-LEVEL VARIABLES READ AS WHEN THE CALL BEGINS. Each datum BY PROGRAM (the guide's laid-datum.mjs) off the statement by which the dump's own 'gosem.cut.vars' lays the variable. In a bare row this is a premise. The card (YtfdefbfakdndiaaDoorCards.lean) ties it to the program's text. -/
def laid_loop_example_g01165_impl_errRowLength {H : Type} : DataW H := .iface "*errors.errorString" (.ptr (.agg [.lit (.string [97, 32, 114, 111, 119, 32, 104, 97, 115, 32, 110, 111, 32, 112, 105, 120, 101, 108, 115, 44, 32, 111, 114, 32, 116, 111, 111, 32, 109, 97, 110, 121])]))
def laid_bytes_ErrTooLarge {H : Type} : DataW H := .iface "*errors.errorString" (.ptr (.agg [.lit (.string [98, 121, 116, 101, 115, 46, 66, 117, 102, 102, 101, 114, 58, 32, 116, 111, 111, 32, 108, 97, 114, 103, 101])]))
def laid_math_bits_deBruijn32tab {H : Type} : DataW H := .agg [.lit (.int .u8 0), .lit (.int .u8 1), .lit (.int .u8 28), .lit (.int .u8 2), .lit (.int .u8 29), .lit (.int .u8 14), .lit (.int .u8 24), .lit (.int .u8 3), .lit (.int .u8 30), .lit (.int .u8 22), .lit (.int .u8 20), .lit (.int .u8 15), .lit (.int .u8 25), .lit (.int .u8 17), .lit (.int .u8 4), .lit (.int .u8 8), .lit (.int .u8 31), .lit (.int .u8 27), .lit (.int .u8 13), .lit (.int .u8 23), .lit (.int .u8 21), .lit (.int .u8 19), .lit (.int .u8 16), .lit (.int .u8 7), .lit (.int .u8 26), .lit (.int .u8 12), .lit (.int .u8 18), .lit (.int .u8 6), .lit (.int .u8 11), .lit (.int .u8 5), .lit (.int .u8 10), .lit (.int .u8 9)]

/-- 'laws.FnExactCountBlack': WHATEVER THE INPUT: true; the input reads as it did. -/
def fnExactCountBlackSpec : ChangeSpec := { name := "fnExactCountBlack", vars := ["loop.example/g01165/impl.errRowLength"], fn := fun _ => fun
  | [d, g1] => { results := [.lit (.bool true)], args := [d], vars := [g1] }
  | _ => none }
def fnExactCountBlackRow : OpenClaim := { program := "ytfdefbfakdndiaadoor", sum := "ffc610272966f3346eb24e1e1528c6ee1c09a66d5a505a562bde54205b6ba9be", func := "loop.example/g01165/laws.FnExactCountBlack", spec := "fnExactCountBlack", named := ["loop.example/g01165/impl.errRowLength"], ifaces := true, apart := false, laid := [("loop.example/g01165/impl.errRowLength", laid_loop_example_g01165_impl_errRowLength)] }
def FnExactCountBlackSaid : Prop := fnExactCountBlackRow.holds Tryd.pinned (OpenSpec.ofChange fnExactCountBlackSpec)

/-- ITS FALSE NEIGHBOUR: 'it returns false'. Refute it at one input. -/
def fnExactCountBlackWrong : ChangeSpec := { name := "fnExactCountBlack", vars := ["loop.example/g01165/impl.errRowLength"], fn := fun _ => fun
  | [d, g1] => { results := [.lit (.bool false)], args := [d], vars := [g1] }
  | _ => none }
def FnExactCountBlackWrongFalsely : Prop := fnExactCountBlackRow.holds Tryd.pinned (OpenSpec.ofChange fnExactCountBlackWrong)

/-- 'laws.FnExactSpotsOf': WHATEVER THE INPUT: true; the input reads as it did. -/
def fnExactSpotsOfSpec : ChangeSpec := { name := "fnExactSpotsOf", vars := ["loop.example/g01165/impl.errRowLength"], fn := fun _ => fun
  | [d, g1] => { results := [.lit (.bool true)], args := [d], vars := [g1] }
  | _ => none }
def fnExactSpotsOfRow : OpenClaim := { program := "ytfdefbfakdndiaadoor", sum := "ffc610272966f3346eb24e1e1528c6ee1c09a66d5a505a562bde54205b6ba9be", func := "loop.example/g01165/laws.FnExactSpotsOf", spec := "fnExactSpotsOf", named := ["loop.example/g01165/impl.errRowLength"], ifaces := true, apart := false, laid := [("loop.example/g01165/impl.errRowLength", laid_loop_example_g01165_impl_errRowLength)] }
def FnExactSpotsOfSaid : Prop := fnExactSpotsOfRow.holds Tryd.pinned (OpenSpec.ofChange fnExactSpotsOfSpec)

/-- ITS FALSE NEIGHBOUR: 'it returns false'. Refute it at one input. -/
def fnExactSpotsOfWrong : ChangeSpec := { name := "fnExactSpotsOf", vars := ["loop.example/g01165/impl.errRowLength"], fn := fun _ => fun
  | [d, g1] => { results := [.lit (.bool false)], args := [d], vars := [g1] }
  | _ => none }
def FnExactSpotsOfWrongFalsely : Prop := fnExactSpotsOfRow.holds Tryd.pinned (OpenSpec.ofChange fnExactSpotsOfWrong)

/-- 'laws.FnExactPictureFrom': WHATEVER THE INPUT: true; the input reads as it did. -/
def fnExactPictureFromSpec : ChangeSpec := { name := "fnExactPictureFrom", fn := fun _ => fun
  | [d1, d2, d3] => { results := [.lit (.bool true)], args := [d1, d2, d3] }
  | _ => none }
def fnExactPictureFromRow : OpenClaim := { program := "ytfdefbfakdndiaadoor", sum := "ffc610272966f3346eb24e1e1528c6ee1c09a66d5a505a562bde54205b6ba9be", func := "loop.example/g01165/laws.FnExactPictureFrom", spec := "fnExactPictureFrom", named := ["bytes.ErrTooLarge"], apart := false, laid := [("bytes.ErrTooLarge", laid_bytes_ErrTooLarge)] }
def FnExactPictureFromSaid : Prop := fnExactPictureFromRow.holds Tryd.pinned (OpenSpec.ofChange fnExactPictureFromSpec)

/-- ITS FALSE NEIGHBOUR: 'it returns false'. Refute it at one input. -/
def fnExactPictureFromWrong : ChangeSpec := { name := "fnExactPictureFrom", fn := fun _ => fun
  | [d1, d2, d3] => { results := [.lit (.bool false)], args := [d1, d2, d3] }
  | _ => none }
def FnExactPictureFromWrongFalsely : Prop := fnExactPictureFromRow.holds Tryd.pinned (OpenSpec.ofChange fnExactPictureFromWrong)

/-- 'laws.FnExactJoinPictures': WHATEVER THE INPUT: true; the input reads as it did. -/
def fnExactJoinPicturesSpec : ChangeSpec := { name := "fnExactJoinPictures", vars := ["loop.example/g01165/impl.errRowLength"], fn := fun _ => fun
  | [d1, d2, d3, g1] => { results := [.lit (.bool true)], args := [d1, d2, d3], vars := [g1] }
  | _ => none }
def fnExactJoinPicturesRow : OpenClaim := { program := "ytfdefbfakdndiaadoor", sum := "ffc610272966f3346eb24e1e1528c6ee1c09a66d5a505a562bde54205b6ba9be", func := "loop.example/g01165/laws.FnExactJoinPictures", spec := "fnExactJoinPictures", named := ["loop.example/g01165/impl.errRowLength", "bytes.ErrTooLarge"], ifaces := true, apart := false, laid := [("bytes.ErrTooLarge", laid_bytes_ErrTooLarge), ("loop.example/g01165/impl.errRowLength", laid_loop_example_g01165_impl_errRowLength)] }
def FnExactJoinPicturesSaid : Prop := fnExactJoinPicturesRow.holds Tryd.pinned (OpenSpec.ofChange fnExactJoinPicturesSpec)

/-- ITS FALSE NEIGHBOUR: 'it returns false'. Refute it at one input. -/
def fnExactJoinPicturesWrong : ChangeSpec := { name := "fnExactJoinPictures", vars := ["loop.example/g01165/impl.errRowLength"], fn := fun _ => fun
  | [d1, d2, d3, g1] => { results := [.lit (.bool false)], args := [d1, d2, d3], vars := [g1] }
  | _ => none }
def FnExactJoinPicturesWrongFalsely : Prop := fnExactJoinPicturesRow.holds Tryd.pinned (OpenSpec.ofChange fnExactJoinPicturesWrong)

/-- 'laws.FnExactCropPicture': WHATEVER THE INPUT: true; the input reads as it did. -/
def fnExactCropPictureSpec : ChangeSpec := { name := "fnExactCropPicture", vars := ["loop.example/g01165/impl.errRowLength"], fn := fun _ => fun
  | [d1, d2, d3, d4, g1] => { results := [.lit (.bool true)], args := [d1, d2, d3, d4], vars := [g1] }
  | _ => none }
def fnExactCropPictureRow : OpenClaim := { program := "ytfdefbfakdndiaadoor", sum := "ffc610272966f3346eb24e1e1528c6ee1c09a66d5a505a562bde54205b6ba9be", func := "loop.example/g01165/laws.FnExactCropPicture", spec := "fnExactCropPicture", named := ["loop.example/g01165/impl.errRowLength", "bytes.ErrTooLarge"], ifaces := true, apart := false, laid := [("bytes.ErrTooLarge", laid_bytes_ErrTooLarge), ("loop.example/g01165/impl.errRowLength", laid_loop_example_g01165_impl_errRowLength)] }
def FnExactCropPictureSaid : Prop := fnExactCropPictureRow.holds Tryd.pinned (OpenSpec.ofChange fnExactCropPictureSpec)

/-- ITS FALSE NEIGHBOUR: 'it returns false'. Refute it at one input. -/
def fnExactCropPictureWrong : ChangeSpec := { name := "fnExactCropPicture", vars := ["loop.example/g01165/impl.errRowLength"], fn := fun _ => fun
  | [d1, d2, d3, d4, g1] => { results := [.lit (.bool false)], args := [d1, d2, d3, d4], vars := [g1] }
  | _ => none }
def FnExactCropPictureWrongFalsely : Prop := fnExactCropPictureRow.holds Tryd.pinned (OpenSpec.ofChange fnExactCropPictureWrong)

/-- 'laws.FnExactIsInside': WHATEVER THE INPUT: true; the input reads as it did. -/
def fnExactIsInsideSpec : ChangeSpec := { name := "fnExactIsInside", vars := ["loop.example/g01165/impl.errRowLength"], fn := fun _ => fun
  | [d1, d2, g1] => { results := [.lit (.bool true)], args := [d1, d2], vars := [g1] }
  | _ => none }
def fnExactIsInsideRow : OpenClaim := { program := "ytfdefbfakdndiaadoor", sum := "ffc610272966f3346eb24e1e1528c6ee1c09a66d5a505a562bde54205b6ba9be", func := "loop.example/g01165/laws.FnExactIsInside", spec := "fnExactIsInside", named := ["loop.example/g01165/impl.errRowLength"], ifaces := true, apart := false, laid := [("loop.example/g01165/impl.errRowLength", laid_loop_example_g01165_impl_errRowLength)] }
def FnExactIsInsideSaid : Prop := fnExactIsInsideRow.holds Tryd.pinned (OpenSpec.ofChange fnExactIsInsideSpec)

/-- ITS FALSE NEIGHBOUR: 'it returns false'. Refute it at one input. -/
def fnExactIsInsideWrong : ChangeSpec := { name := "fnExactIsInside", vars := ["loop.example/g01165/impl.errRowLength"], fn := fun _ => fun
  | [d1, d2, g1] => { results := [.lit (.bool false)], args := [d1, d2], vars := [g1] }
  | _ => none }
def FnExactIsInsideWrongFalsely : Prop := fnExactIsInsideRow.holds Tryd.pinned (OpenSpec.ofChange fnExactIsInsideWrong)

/-- 'laws.FnExactPictureText': WHATEVER THE INPUT: true; the input reads as it did. -/
def fnExactPictureTextSpec : ChangeSpec := { name := "fnExactPictureText", vars := ["loop.example/g01165/impl.errRowLength"], fn := fun _ => fun
  | [d, g1] => { results := [.lit (.bool true)], args := [d], vars := [g1] }
  | _ => none }
def fnExactPictureTextRow : OpenClaim := { program := "ytfdefbfakdndiaadoor", sum := "ffc610272966f3346eb24e1e1528c6ee1c09a66d5a505a562bde54205b6ba9be", func := "loop.example/g01165/laws.FnExactPictureText", spec := "fnExactPictureText", named := ["loop.example/g01165/impl.errRowLength", "bytes.ErrTooLarge"], ifaces := true, apart := false, laid := [("bytes.ErrTooLarge", laid_bytes_ErrTooLarge), ("loop.example/g01165/impl.errRowLength", laid_loop_example_g01165_impl_errRowLength)] }
def FnExactPictureTextSaid : Prop := fnExactPictureTextRow.holds Tryd.pinned (OpenSpec.ofChange fnExactPictureTextSpec)

/-- ITS FALSE NEIGHBOUR: 'it returns false'. Refute it at one input. -/
def fnExactPictureTextWrong : ChangeSpec := { name := "fnExactPictureText", vars := ["loop.example/g01165/impl.errRowLength"], fn := fun _ => fun
  | [d, g1] => { results := [.lit (.bool false)], args := [d], vars := [g1] }
  | _ => none }
def FnExactPictureTextWrongFalsely : Prop := fnExactPictureTextRow.holds Tryd.pinned (OpenSpec.ofChange fnExactPictureTextWrong)

/-- 'laws.FnExactShiftPicture': WHATEVER THE INPUT: true; the input reads as it did. -/
def fnExactShiftPictureSpec : ChangeSpec := { name := "fnExactShiftPicture", vars := ["loop.example/g01165/impl.errRowLength"], fn := fun _ => fun
  | [d1, d2, d3, g1] => { results := [.lit (.bool true)], args := [d1, d2, d3], vars := [g1] }
  | _ => none }
def fnExactShiftPictureRow : OpenClaim := { program := "ytfdefbfakdndiaadoor", sum := "ffc610272966f3346eb24e1e1528c6ee1c09a66d5a505a562bde54205b6ba9be", func := "loop.example/g01165/laws.FnExactShiftPicture", spec := "fnExactShiftPicture", named := ["loop.example/g01165/impl.errRowLength", "bytes.ErrTooLarge"], ifaces := true, apart := false, laid := [("bytes.ErrTooLarge", laid_bytes_ErrTooLarge), ("loop.example/g01165/impl.errRowLength", laid_loop_example_g01165_impl_errRowLength)] }
def FnExactShiftPictureSaid : Prop := fnExactShiftPictureRow.holds Tryd.pinned (OpenSpec.ofChange fnExactShiftPictureSpec)

/-- ITS FALSE NEIGHBOUR: 'it returns false'. Refute it at one input. -/
def fnExactShiftPictureWrong : ChangeSpec := { name := "fnExactShiftPicture", vars := ["loop.example/g01165/impl.errRowLength"], fn := fun _ => fun
  | [d1, d2, d3, g1] => { results := [.lit (.bool false)], args := [d1, d2, d3], vars := [g1] }
  | _ => none }
def FnExactShiftPictureWrongFalsely : Prop := fnExactShiftPictureRow.holds Tryd.pinned (OpenSpec.ofChange fnExactShiftPictureWrong)

/-- 'laws.FnExactTurnPicture': WHATEVER THE INPUT: true; the input reads as it did. -/
def fnExactTurnPictureSpec : ChangeSpec := { name := "fnExactTurnPicture", vars := ["loop.example/g01165/impl.errRowLength"], fn := fun _ => fun
  | [d1, d2, g1] => { results := [.lit (.bool true)], args := [d1, d2], vars := [g1] }
  | _ => none }
def fnExactTurnPictureRow : OpenClaim := { program := "ytfdefbfakdndiaadoor", sum := "ffc610272966f3346eb24e1e1528c6ee1c09a66d5a505a562bde54205b6ba9be", func := "loop.example/g01165/laws.FnExactTurnPicture", spec := "fnExactTurnPicture", named := ["loop.example/g01165/impl.errRowLength", "bytes.ErrTooLarge"], ifaces := true, apart := false, laid := [("bytes.ErrTooLarge", laid_bytes_ErrTooLarge), ("loop.example/g01165/impl.errRowLength", laid_loop_example_g01165_impl_errRowLength)] }
def FnExactTurnPictureSaid : Prop := fnExactTurnPictureRow.holds Tryd.pinned (OpenSpec.ofChange fnExactTurnPictureSpec)

/-- ITS FALSE NEIGHBOUR: 'it returns false'. Refute it at one input. -/
def fnExactTurnPictureWrong : ChangeSpec := { name := "fnExactTurnPicture", vars := ["loop.example/g01165/impl.errRowLength"], fn := fun _ => fun
  | [d1, d2, g1] => { results := [.lit (.bool false)], args := [d1, d2], vars := [g1] }
  | _ => none }
def FnExactTurnPictureWrongFalsely : Prop := fnExactTurnPictureRow.holds Tryd.pinned (OpenSpec.ofChange fnExactTurnPictureWrong)

/-- 'laws.FnExactBoxOf': WHATEVER THE INPUT: true; the input reads as it did. -/
def fnExactBoxOfSpec : ChangeSpec := { name := "fnExactBoxOf", vars := ["loop.example/g01165/impl.errRowLength"], fn := fun _ => fun
  | [d, g1] => { results := [.lit (.bool true)], args := [d], vars := [g1] }
  | _ => none }
def fnExactBoxOfRow : OpenClaim := { program := "ytfdefbfakdndiaadoor", sum := "ffc610272966f3346eb24e1e1528c6ee1c09a66d5a505a562bde54205b6ba9be", func := "loop.example/g01165/laws.FnExactBoxOf", spec := "fnExactBoxOf", named := ["loop.example/g01165/impl.errRowLength", "math/bits.deBruijn32tab"], ifaces := true, apart := false, laid := [("math/bits.deBruijn32tab", laid_math_bits_deBruijn32tab), ("loop.example/g01165/impl.errRowLength", laid_loop_example_g01165_impl_errRowLength)] }
def FnExactBoxOfSaid : Prop := fnExactBoxOfRow.holds Tryd.pinned (OpenSpec.ofChange fnExactBoxOfSpec)

/-- ITS FALSE NEIGHBOUR: 'it returns false'. Refute it at one input. -/
def fnExactBoxOfWrong : ChangeSpec := { name := "fnExactBoxOf", vars := ["loop.example/g01165/impl.errRowLength"], fn := fun _ => fun
  | [d, g1] => { results := [.lit (.bool false)], args := [d], vars := [g1] }
  | _ => none }
def FnExactBoxOfWrongFalsely : Prop := fnExactBoxOfRow.holds Tryd.pinned (OpenSpec.ofChange fnExactBoxOfWrong)

/- THE SECOND FORM. 'bulk': how many values and letters a reading holds, each counted each time it is reached (what is shared counts as often as it is met; a slice's spare places count too). A statement '..UptoSaid' is the law's where the arguments, and the package variables that the reading takes, are together of bulk at most 1048576: NARROWER than '..Said'. Prove '..Said' where nothing that the law and all that it calls make is longer than what came in: it says more and counts as full. Else prove '..UptoSaid'. A law counts once. -/
mutual
def uptoBulk {H : Type} : DataW H → Nat
  | .lit (.string bytes) => bytes.length + 1
  | .lit _ => 1
  | .nil => 1
  | .ptr d => uptoBulk d + 1
  | .slice elems spare => uptoBulkAll elems + uptoBulkAll spare + 1
  | .agg parts => uptoBulkAll parts + 1
  | .iface _ d => uptoBulk d + 1
  | .map entries => uptoBulkEntries entries + 1
  | .held _ => 1
def uptoBulkAll {H : Type} : List (DataW H) → Nat
  | [] => 0
  | d :: r => uptoBulk d + uptoBulkAll r
def uptoBulkEntries {H : Type} : List (Lit × DataW H) → Nat
  | [] => 0
  | x :: r => uptoBulkEntry x + uptoBulkEntries r
def uptoBulkEntry {H : Type} : Lit × DataW H → Nat
  | (.string bytes, d) => bytes.length + uptoBulk d + 1
  | (_, d) => uptoBulk d + 1
 end
def uptoSmall : (H : Type) → List (DataW H) → Bool := fun _ ds => decide (uptoBulkAll ds ≤ 1048576)
def OpenSpec.upto (s : _root_.Go.ChangeSpec) : _root_.Go.OpenSpec := { _root_.Go.OpenSpec.ofChange s with cond := some uptoSmall }

/-- 'laws.FnExactCountBlack', WHERE WHAT IT READS IS OF BULK AT MOST 1048576: true; the input reads as it did. -/
def fnExactCountBlackUptoRow : OpenClaim := { program := "ytfdefbfakdndiaadoor", sum := "ffc610272966f3346eb24e1e1528c6ee1c09a66d5a505a562bde54205b6ba9be", func := "loop.example/g01165/laws.FnExactCountBlack", spec := "fnExactCountBlack", named := ["loop.example/g01165/impl.errRowLength"], ifaces := true, apart := false, laid := [("loop.example/g01165/impl.errRowLength", laid_loop_example_g01165_impl_errRowLength)], narrowed := true }
def FnExactCountBlackUptoSaid : Prop := fnExactCountBlackUptoRow.holds Tryd.pinned (OpenSpec.upto fnExactCountBlackSpec)

/-- 'laws.FnExactSpotsOf', WHERE WHAT IT READS IS OF BULK AT MOST 1048576: true; the input reads as it did. -/
def fnExactSpotsOfUptoRow : OpenClaim := { program := "ytfdefbfakdndiaadoor", sum := "ffc610272966f3346eb24e1e1528c6ee1c09a66d5a505a562bde54205b6ba9be", func := "loop.example/g01165/laws.FnExactSpotsOf", spec := "fnExactSpotsOf", named := ["loop.example/g01165/impl.errRowLength"], ifaces := true, apart := false, laid := [("loop.example/g01165/impl.errRowLength", laid_loop_example_g01165_impl_errRowLength)], narrowed := true }
def FnExactSpotsOfUptoSaid : Prop := fnExactSpotsOfUptoRow.holds Tryd.pinned (OpenSpec.upto fnExactSpotsOfSpec)

/-- 'laws.FnExactPictureFrom', WHERE WHAT IT READS IS OF BULK AT MOST 1048576: true; the input reads as it did. -/
def fnExactPictureFromUptoRow : OpenClaim := { program := "ytfdefbfakdndiaadoor", sum := "ffc610272966f3346eb24e1e1528c6ee1c09a66d5a505a562bde54205b6ba9be", func := "loop.example/g01165/laws.FnExactPictureFrom", spec := "fnExactPictureFrom", named := ["bytes.ErrTooLarge"], apart := false, laid := [("bytes.ErrTooLarge", laid_bytes_ErrTooLarge)], narrowed := true }
def FnExactPictureFromUptoSaid : Prop := fnExactPictureFromUptoRow.holds Tryd.pinned (OpenSpec.upto fnExactPictureFromSpec)

/-- 'laws.FnExactJoinPictures', WHERE WHAT IT READS IS OF BULK AT MOST 1048576: true; the input reads as it did. -/
def fnExactJoinPicturesUptoRow : OpenClaim := { program := "ytfdefbfakdndiaadoor", sum := "ffc610272966f3346eb24e1e1528c6ee1c09a66d5a505a562bde54205b6ba9be", func := "loop.example/g01165/laws.FnExactJoinPictures", spec := "fnExactJoinPictures", named := ["loop.example/g01165/impl.errRowLength", "bytes.ErrTooLarge"], ifaces := true, apart := false, laid := [("bytes.ErrTooLarge", laid_bytes_ErrTooLarge), ("loop.example/g01165/impl.errRowLength", laid_loop_example_g01165_impl_errRowLength)], narrowed := true }
def FnExactJoinPicturesUptoSaid : Prop := fnExactJoinPicturesUptoRow.holds Tryd.pinned (OpenSpec.upto fnExactJoinPicturesSpec)

/-- 'laws.FnExactCropPicture', WHERE WHAT IT READS IS OF BULK AT MOST 1048576: true; the input reads as it did. -/
def fnExactCropPictureUptoRow : OpenClaim := { program := "ytfdefbfakdndiaadoor", sum := "ffc610272966f3346eb24e1e1528c6ee1c09a66d5a505a562bde54205b6ba9be", func := "loop.example/g01165/laws.FnExactCropPicture", spec := "fnExactCropPicture", named := ["loop.example/g01165/impl.errRowLength", "bytes.ErrTooLarge"], ifaces := true, apart := false, laid := [("bytes.ErrTooLarge", laid_bytes_ErrTooLarge), ("loop.example/g01165/impl.errRowLength", laid_loop_example_g01165_impl_errRowLength)], narrowed := true }
def FnExactCropPictureUptoSaid : Prop := fnExactCropPictureUptoRow.holds Tryd.pinned (OpenSpec.upto fnExactCropPictureSpec)

/-- 'laws.FnExactIsInside', WHERE WHAT IT READS IS OF BULK AT MOST 1048576: true; the input reads as it did. -/
def fnExactIsInsideUptoRow : OpenClaim := { program := "ytfdefbfakdndiaadoor", sum := "ffc610272966f3346eb24e1e1528c6ee1c09a66d5a505a562bde54205b6ba9be", func := "loop.example/g01165/laws.FnExactIsInside", spec := "fnExactIsInside", named := ["loop.example/g01165/impl.errRowLength"], ifaces := true, apart := false, laid := [("loop.example/g01165/impl.errRowLength", laid_loop_example_g01165_impl_errRowLength)], narrowed := true }
def FnExactIsInsideUptoSaid : Prop := fnExactIsInsideUptoRow.holds Tryd.pinned (OpenSpec.upto fnExactIsInsideSpec)

/-- 'laws.FnExactPictureText', WHERE WHAT IT READS IS OF BULK AT MOST 1048576: true; the input reads as it did. -/
def fnExactPictureTextUptoRow : OpenClaim := { program := "ytfdefbfakdndiaadoor", sum := "ffc610272966f3346eb24e1e1528c6ee1c09a66d5a505a562bde54205b6ba9be", func := "loop.example/g01165/laws.FnExactPictureText", spec := "fnExactPictureText", named := ["loop.example/g01165/impl.errRowLength", "bytes.ErrTooLarge"], ifaces := true, apart := false, laid := [("bytes.ErrTooLarge", laid_bytes_ErrTooLarge), ("loop.example/g01165/impl.errRowLength", laid_loop_example_g01165_impl_errRowLength)], narrowed := true }
def FnExactPictureTextUptoSaid : Prop := fnExactPictureTextUptoRow.holds Tryd.pinned (OpenSpec.upto fnExactPictureTextSpec)

/-- 'laws.FnExactShiftPicture', WHERE WHAT IT READS IS OF BULK AT MOST 1048576: true; the input reads as it did. -/
def fnExactShiftPictureUptoRow : OpenClaim := { program := "ytfdefbfakdndiaadoor", sum := "ffc610272966f3346eb24e1e1528c6ee1c09a66d5a505a562bde54205b6ba9be", func := "loop.example/g01165/laws.FnExactShiftPicture", spec := "fnExactShiftPicture", named := ["loop.example/g01165/impl.errRowLength", "bytes.ErrTooLarge"], ifaces := true, apart := false, laid := [("bytes.ErrTooLarge", laid_bytes_ErrTooLarge), ("loop.example/g01165/impl.errRowLength", laid_loop_example_g01165_impl_errRowLength)], narrowed := true }
def FnExactShiftPictureUptoSaid : Prop := fnExactShiftPictureUptoRow.holds Tryd.pinned (OpenSpec.upto fnExactShiftPictureSpec)

/-- 'laws.FnExactTurnPicture', WHERE WHAT IT READS IS OF BULK AT MOST 1048576: true; the input reads as it did. -/
def fnExactTurnPictureUptoRow : OpenClaim := { program := "ytfdefbfakdndiaadoor", sum := "ffc610272966f3346eb24e1e1528c6ee1c09a66d5a505a562bde54205b6ba9be", func := "loop.example/g01165/laws.FnExactTurnPicture", spec := "fnExactTurnPicture", named := ["loop.example/g01165/impl.errRowLength", "bytes.ErrTooLarge"], ifaces := true, apart := false, laid := [("bytes.ErrTooLarge", laid_bytes_ErrTooLarge), ("loop.example/g01165/impl.errRowLength", laid_loop_example_g01165_impl_errRowLength)], narrowed := true }
def FnExactTurnPictureUptoSaid : Prop := fnExactTurnPictureUptoRow.holds Tryd.pinned (OpenSpec.upto fnExactTurnPictureSpec)

/-- 'laws.FnExactBoxOf', WHERE WHAT IT READS IS OF BULK AT MOST 1048576: true; the input reads as it did. -/
def fnExactBoxOfUptoRow : OpenClaim := { program := "ytfdefbfakdndiaadoor", sum := "ffc610272966f3346eb24e1e1528c6ee1c09a66d5a505a562bde54205b6ba9be", func := "loop.example/g01165/laws.FnExactBoxOf", spec := "fnExactBoxOf", named := ["loop.example/g01165/impl.errRowLength", "math/bits.deBruijn32tab"], ifaces := true, apart := false, laid := [("math/bits.deBruijn32tab", laid_math_bits_deBruijn32tab), ("loop.example/g01165/impl.errRowLength", laid_loop_example_g01165_impl_errRowLength)], narrowed := true }
def FnExactBoxOfUptoSaid : Prop := fnExactBoxOfUptoRow.holds Tryd.pinned (OpenSpec.upto fnExactBoxOfSpec)

end Rows
end Go.Proofs.YtfdefbfakdndiaaDoor
