/-
  NARROWER THAN 'FOR EVERY INPUT', by the rows' own cells (each row's printed sentence says how): FnExactInvertGrey: ifaces, laid · FnExactStackPictures: ifaces, laid · FnExactCutPeaks: ifaces, laid · FnExactReconstructGrey: ifaces, laid.
  DERIVED. THE GIVEN ROWS OF THIS SEAT. 4 by the template 'for every input the law returns true; each argument reads behind the call as it read before'; 0 by the template 'total and deterministic' (their statements: YtoojldhjgbegnaaDoorTotals.lean).
  GIVEN WITH THE SEED: the statements are not yours to turn. If you find one false, say at which input.
  Laid BY PROGRAM, IN A SANDBOX (cutbox-rows.mjs): the forced cells as the released guide's own fill.sh prints them over the translation 3b0ba25eb3fabe70… (all of the seat's roots in one cut). By AI agents, Wed Nov 11 2026. No macro, syntax, notation, axiom, sorry.
-/
import Derived.Test.YtoojldhjgbegnaaDoorChecked
import GoSem.Claim
import GoSem.ClaimJoined
import GoSem.ClaimMapViews
import Derived.JoinedTies
import Derived.KernelRfl
namespace Go.Proofs.YtoojldhjgbegnaaDoor
/- THE CELL 'sum', in the pinned program and in every row, IS THE sha256 OF THE DUMP (.gsa) THAT YtoojldhjgbegnaaDoorProg.lean LOADS. Nothing in Lean hashes anything: it is a label: what it is worth is what the hold of that sum in a sandbox is worth. -/
noncomputable def Tryd.pinned : Pinned := { name := "ytoojldhjgbegnaadoor", sum := "3b0ba25eb3fabe70d0c5f6c75787859935efea2f875f12bff7291774795ddbd9", checked := Tryd.checked }
namespace Rows
def none {H : Type} : Left H := { results := [], args := [] }

/- WHAT THE LISTED PACKAGE-LEVEL VARIABLES READ AS WHEN THE CALL BEGINS. Each datum BY PROGRAM (the guide's laid-datum.mjs) off the statement by which the dump's own 'gosem.cut.vars' lays the variable. In a bare row this is a premise. The card (YtoojldhjgbegnaaDoorCards.lean) ties it to the program's text. -/
def laid_loop_example_g01165_impl_errNoResult {H : Type} : DataW H := .iface "*errors.errorString" (.ptr (.agg [.lit (.string [116, 104, 101, 32, 114, 101, 115, 117, 108, 116, 32, 100, 111, 101, 115, 32, 110, 111, 116, 32, 101, 120, 105, 115, 116])]))
def laid_loop_example_g01165_impl_errRowLength {H : Type} : DataW H := .iface "*errors.errorString" (.ptr (.agg [.lit (.string [97, 32, 114, 111, 119, 32, 104, 97, 115, 32, 110, 111, 32, 112, 105, 120, 101, 108, 115, 44, 32, 111, 114, 32, 116, 111, 111, 32, 109, 97, 110, 121])]))
def laid_loop_example_g01165_impl_greyMoves {H : Type} : DataW H := .agg [.agg [.lit (.int .i64 0), .lit (.int .i64 (-1))], .agg [.lit (.int .i64 (-1)), .lit (.int .i64 0)], .agg [.lit (.int .i64 1), .lit (.int .i64 0)], .agg [.lit (.int .i64 0), .lit (.int .i64 1)]]

/-- 'laws.FnExactInvertGrey': WHATEVER THE INPUT: true; the input reads as it did. -/
def fnExactInvertGreySpec : ChangeSpec := { name := "fnExactInvertGrey", vars := ["loop.example/g01165/impl.errNoResult"], fn := fun _ => fun
  | [d, g1] => { results := [.lit (.bool true)], args := [d], vars := [g1] }
  | _ => none }
def fnExactInvertGreyRow : OpenClaim := { program := "ytoojldhjgbegnaadoor", sum := "3b0ba25eb3fabe70d0c5f6c75787859935efea2f875f12bff7291774795ddbd9", func := "loop.example/g01165/laws.FnExactInvertGrey", spec := "fnExactInvertGrey", unfollowed := true, recurses := true, named := ["loop.example/g01165/impl.errNoResult"], ifaces := true, apart := false, laid := [("loop.example/g01165/impl.errNoResult", laid_loop_example_g01165_impl_errNoResult)] }
def FnExactInvertGreySaid : Prop := fnExactInvertGreyRow.holds Tryd.pinned (OpenSpec.ofChange fnExactInvertGreySpec)

/-- ITS FALSE NEIGHBOUR: 'it returns false'. Refute it at one input. -/
def fnExactInvertGreyWrong : ChangeSpec := { name := "fnExactInvertGrey", vars := ["loop.example/g01165/impl.errNoResult"], fn := fun _ => fun
  | [d, g1] => { results := [.lit (.bool false)], args := [d], vars := [g1] }
  | _ => none }
def FnExactInvertGreyWrongFalsely : Prop := fnExactInvertGreyRow.holds Tryd.pinned (OpenSpec.ofChange fnExactInvertGreyWrong)

/-- 'laws.FnExactStackPictures': WHATEVER THE INPUT: true; the input reads as it did. -/
def fnExactStackPicturesSpec : ChangeSpec := { name := "fnExactStackPictures", vars := ["loop.example/g01165/impl.errNoResult", "loop.example/g01165/impl.errRowLength"], fn := fun _ => fun
  | [d, g1, g2] => { results := [.lit (.bool true)], args := [d], vars := [g1, g2] }
  | _ => none }
def fnExactStackPicturesRow : OpenClaim := { program := "ytoojldhjgbegnaadoor", sum := "3b0ba25eb3fabe70d0c5f6c75787859935efea2f875f12bff7291774795ddbd9", func := "loop.example/g01165/laws.FnExactStackPictures", spec := "fnExactStackPictures", unfollowed := true, recurses := true, named := ["loop.example/g01165/impl.errNoResult", "loop.example/g01165/impl.errRowLength"], ifaces := true, apart := false, laid := [("loop.example/g01165/impl.errRowLength", laid_loop_example_g01165_impl_errRowLength), ("loop.example/g01165/impl.errNoResult", laid_loop_example_g01165_impl_errNoResult)] }
def FnExactStackPicturesSaid : Prop := fnExactStackPicturesRow.holds Tryd.pinned (OpenSpec.ofChange fnExactStackPicturesSpec)

/-- ITS FALSE NEIGHBOUR: 'it returns false'. Refute it at one input. -/
def fnExactStackPicturesWrong : ChangeSpec := { name := "fnExactStackPictures", vars := ["loop.example/g01165/impl.errNoResult", "loop.example/g01165/impl.errRowLength"], fn := fun _ => fun
  | [d, g1, g2] => { results := [.lit (.bool false)], args := [d], vars := [g1, g2] }
  | _ => none }
def FnExactStackPicturesWrongFalsely : Prop := fnExactStackPicturesRow.holds Tryd.pinned (OpenSpec.ofChange fnExactStackPicturesWrong)

/-- 'laws.FnExactCutPeaks': WHATEVER THE INPUT: true; the input reads as it did. -/
def fnExactCutPeaksSpec : ChangeSpec := { name := "fnExactCutPeaks", vars := ["loop.example/g01165/impl.errNoResult", "loop.example/g01165/impl.greyMoves"], fn := fun _ => fun
  | [d1, d2, g1, g2] => { results := [.lit (.bool true)], args := [d1, d2], vars := [g1, g2] }
  | _ => none }
def fnExactCutPeaksRow : OpenClaim := { program := "ytoojldhjgbegnaadoor", sum := "3b0ba25eb3fabe70d0c5f6c75787859935efea2f875f12bff7291774795ddbd9", func := "loop.example/g01165/laws.FnExactCutPeaks", spec := "fnExactCutPeaks", unfollowed := true, recurses := true, named := ["loop.example/g01165/impl.errNoResult", "loop.example/g01165/impl.greyMoves"], ifaces := true, apart := false, laid := [("loop.example/g01165/impl.errNoResult", laid_loop_example_g01165_impl_errNoResult), ("loop.example/g01165/impl.greyMoves", laid_loop_example_g01165_impl_greyMoves)] }
def FnExactCutPeaksSaid : Prop := fnExactCutPeaksRow.holds Tryd.pinned (OpenSpec.ofChange fnExactCutPeaksSpec)

/-- ITS FALSE NEIGHBOUR: 'it returns false'. Refute it at one input. -/
def fnExactCutPeaksWrong : ChangeSpec := { name := "fnExactCutPeaks", vars := ["loop.example/g01165/impl.errNoResult", "loop.example/g01165/impl.greyMoves"], fn := fun _ => fun
  | [d1, d2, g1, g2] => { results := [.lit (.bool false)], args := [d1, d2], vars := [g1, g2] }
  | _ => none }
def FnExactCutPeaksWrongFalsely : Prop := fnExactCutPeaksRow.holds Tryd.pinned (OpenSpec.ofChange fnExactCutPeaksWrong)

/-- 'laws.FnExactReconstructGrey': WHATEVER THE INPUT: true; the input reads as it did. -/
def fnExactReconstructGreySpec : ChangeSpec := { name := "fnExactReconstructGrey", vars := ["loop.example/g01165/impl.errNoResult", "loop.example/g01165/impl.greyMoves"], fn := fun _ => fun
  | [d1, d2, g1, g2] => { results := [.lit (.bool true)], args := [d1, d2], vars := [g1, g2] }
  | _ => none }
def fnExactReconstructGreyRow : OpenClaim := { program := "ytoojldhjgbegnaadoor", sum := "3b0ba25eb3fabe70d0c5f6c75787859935efea2f875f12bff7291774795ddbd9", func := "loop.example/g01165/laws.FnExactReconstructGrey", spec := "fnExactReconstructGrey", unfollowed := true, recurses := true, named := ["loop.example/g01165/impl.errNoResult", "loop.example/g01165/impl.greyMoves"], ifaces := true, apart := false, laid := [("loop.example/g01165/impl.errNoResult", laid_loop_example_g01165_impl_errNoResult), ("loop.example/g01165/impl.greyMoves", laid_loop_example_g01165_impl_greyMoves)] }
def FnExactReconstructGreySaid : Prop := fnExactReconstructGreyRow.holds Tryd.pinned (OpenSpec.ofChange fnExactReconstructGreySpec)

/-- ITS FALSE NEIGHBOUR: 'it returns false'. Refute it at one input. -/
def fnExactReconstructGreyWrong : ChangeSpec := { name := "fnExactReconstructGrey", vars := ["loop.example/g01165/impl.errNoResult", "loop.example/g01165/impl.greyMoves"], fn := fun _ => fun
  | [d1, d2, g1, g2] => { results := [.lit (.bool false)], args := [d1, d2], vars := [g1, g2] }
  | _ => none }
def FnExactReconstructGreyWrongFalsely : Prop := fnExactReconstructGreyRow.holds Tryd.pinned (OpenSpec.ofChange fnExactReconstructGreyWrong)

/- THE SECOND FORM. 'bulk': how many values and letters a reading holds, each counted each time it is reached (what is shared counts as often as it is met; a slice's spare places count too). A statement '..UptoSaid' is the law's where the arguments, and the package variables that the reading takes, are together of bulk at most 1048576: NARROWER than '..Said'. Prove '..Said' where nothing that the law and all that it calls make is longer than what came in: it says more and counts as full. Else prove '..UptoSaid'. A law counts once. -/
mutual
def uptoBulk {H : Type} : DataW H → Nat
  | .lit (.string bytes) => bytes.length + 1
  | .lit _ => 1
  | .nil => 1
  | .ptr d => uptoBulk d + 1
  | .slice elems spare => uptoBulkAll elems + uptoBulkAll spare + 1
  | .agg parts => uptoBulkAll parts + 1
  | .iface _ d => uptoBulk d + 1
  | .map entries => uptoBulkEntries entries + 1
  | .held _ => 1
def uptoBulkAll {H : Type} : List (DataW H) → Nat
  | [] => 0
  | d :: r => uptoBulk d + uptoBulkAll r
def uptoBulkEntries {H : Type} : List (Lit × DataW H) → Nat
  | [] => 0
  | x :: r => uptoBulkEntry x + uptoBulkEntries r
def uptoBulkEntry {H : Type} : Lit × DataW H → Nat
  | (.string bytes, d) => bytes.length + uptoBulk d + 1
  | (_, d) => uptoBulk d + 1
 end
def uptoSmall : (H : Type) → List (DataW H) → Bool := fun _ ds => decide (uptoBulkAll ds ≤ 1048576)
def OpenSpec.upto (s : _root_.Go.ChangeSpec) : _root_.Go.OpenSpec := { _root_.Go.OpenSpec.ofChange s with cond := some uptoSmall }

/-- 'laws.FnExactInvertGrey', WHERE WHAT IT READS IS OF BULK AT MOST 1048576: true; the input reads as it did. -/
def fnExactInvertGreyUptoRow : OpenClaim := { program := "ytoojldhjgbegnaadoor", sum := "3b0ba25eb3fabe70d0c5f6c75787859935efea2f875f12bff7291774795ddbd9", func := "loop.example/g01165/laws.FnExactInvertGrey", spec := "fnExactInvertGrey", unfollowed := true, recurses := true, named := ["loop.example/g01165/impl.errNoResult"], ifaces := true, apart := false, laid := [("loop.example/g01165/impl.errNoResult", laid_loop_example_g01165_impl_errNoResult)], narrowed := true }
def FnExactInvertGreyUptoSaid : Prop := fnExactInvertGreyUptoRow.holds Tryd.pinned (OpenSpec.upto fnExactInvertGreySpec)

/-- 'laws.FnExactStackPictures', WHERE WHAT IT READS IS OF BULK AT MOST 1048576: true; the input reads as it did. -/
def fnExactStackPicturesUptoRow : OpenClaim := { program := "ytoojldhjgbegnaadoor", sum := "3b0ba25eb3fabe70d0c5f6c75787859935efea2f875f12bff7291774795ddbd9", func := "loop.example/g01165/laws.FnExactStackPictures", spec := "fnExactStackPictures", unfollowed := true, recurses := true, named := ["loop.example/g01165/impl.errNoResult", "loop.example/g01165/impl.errRowLength"], ifaces := true, apart := false, laid := [("loop.example/g01165/impl.errRowLength", laid_loop_example_g01165_impl_errRowLength), ("loop.example/g01165/impl.errNoResult", laid_loop_example_g01165_impl_errNoResult)], narrowed := true }
def FnExactStackPicturesUptoSaid : Prop := fnExactStackPicturesUptoRow.holds Tryd.pinned (OpenSpec.upto fnExactStackPicturesSpec)

/-- 'laws.FnExactCutPeaks', WHERE WHAT IT READS IS OF BULK AT MOST 1048576: true; the input reads as it did. -/
def fnExactCutPeaksUptoRow : OpenClaim := { program := "ytoojldhjgbegnaadoor", sum := "3b0ba25eb3fabe70d0c5f6c75787859935efea2f875f12bff7291774795ddbd9", func := "loop.example/g01165/laws.FnExactCutPeaks", spec := "fnExactCutPeaks", unfollowed := true, recurses := true, named := ["loop.example/g01165/impl.errNoResult", "loop.example/g01165/impl.greyMoves"], ifaces := true, apart := false, laid := [("loop.example/g01165/impl.errNoResult", laid_loop_example_g01165_impl_errNoResult), ("loop.example/g01165/impl.greyMoves", laid_loop_example_g01165_impl_greyMoves)], narrowed := true }
def FnExactCutPeaksUptoSaid : Prop := fnExactCutPeaksUptoRow.holds Tryd.pinned (OpenSpec.upto fnExactCutPeaksSpec)

/-- 'laws.FnExactReconstructGrey', WHERE WHAT IT READS IS OF BULK AT MOST 1048576: true; the input reads as it did. -/
def fnExactReconstructGreyUptoRow : OpenClaim := { program := "ytoojldhjgbegnaadoor", sum := "3b0ba25eb3fabe70d0c5f6c75787859935efea2f875f12bff7291774795ddbd9", func := "loop.example/g01165/laws.FnExactReconstructGrey", spec := "fnExactReconstructGrey", unfollowed := true, recurses := true, named := ["loop.example/g01165/impl.errNoResult", "loop.example/g01165/impl.greyMoves"], ifaces := true, apart := false, laid := [("loop.example/g01165/impl.errNoResult", laid_loop_example_g01165_impl_errNoResult), ("loop.example/g01165/impl.greyMoves", laid_loop_example_g01165_impl_greyMoves)], narrowed := true }
def FnExactReconstructGreyUptoSaid : Prop := fnExactReconstructGreyUptoRow.holds Tryd.pinned (OpenSpec.upto fnExactReconstructGreySpec)

end Rows
end Go.Proofs.YtoojldhjgbegnaaDoor
