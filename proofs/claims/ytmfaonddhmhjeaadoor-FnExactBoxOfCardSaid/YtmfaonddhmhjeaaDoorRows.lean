/-
  NARROWER THAN 'FOR EVERY INPUT', by the rows' own cells (each row's printed sentence says how): FnExactPictureFrom: laid · FnExactCropPicture: ifaces, laid · FnExactBoxOf: ifaces, laid · FnJoins: ifaces, laid.
  DERIVED. THE GIVEN ROWS OF THIS SEAT. 4 by the template 'for every input the law returns true; each argument reads behind the call as it read before'; 0 by the template 'total and deterministic' (their statements: YtmfaonddhmhjeaaDoorTotals.lean).
  GIVEN WITH THE SEED: the statements are not yours to turn. If you find one false, say at which input.
  Laid BY PROGRAM, IN A SANDBOX (cutbox-rows.mjs): the forced cells as the released guide's own fill.sh prints them over the translation c6b7ebd2b0d7ffb7… (all of the seat's roots in one cut). By AI agents, Wed Nov 11 2026. No macro, syntax, notation, axiom, sorry.
-/
import Derived.Test.YtmfaonddhmhjeaaDoorChecked
import GoSem.Claim
import GoSem.ClaimJoined
import GoSem.ClaimMapViews
import Derived.JoinedTies
import Derived.KernelRfl
namespace Go.Proofs.YtmfaonddhmhjeaaDoor
/- THE CELL 'sum', in the pinned program and in every row, IS THE sha256 OF THE DUMP (.gsa) THAT YtmfaonddhmhjeaaDoorProg.lean LOADS. Nothing in Lean hashes anything: it is a label: what it is worth is what the hold of that sum in a sandbox is worth. -/
noncomputable def Tryd.pinned : Pinned := { name := "ytmfaonddhmhjeaadoor", sum := "c6b7ebd2b0d7ffb78984da5457c337e3d396f14638eb0bd0262a6b6d947cdf7e", checked := Tryd.checked }
namespace Rows
def none {H : Type} : Left H := { results := [], args := [] }

/- WHAT THE LISTED PACKAGE-LEVEL VARIABLES READ AS WHEN THE CALL BEGINS. Each datum BY PROGRAM (the guide's laid-datum.mjs) off the statement by which the dump's own 'gosem.cut.vars' lays the variable. In a bare row this is a premise. The card (YtmfaonddhmhjeaaDoorCards.lean) ties it to the program's text. -/
def laid_bytes_ErrTooLarge {H : Type} : DataW H := .iface "*errors.errorString" (.ptr (.agg [.lit (.string [98, 121, 116, 101, 115, 46, 66, 117, 102, 102, 101, 114, 58, 32, 116, 111, 111, 32, 108, 97, 114, 103, 101])]))
def laid_loop_example_g01165_impl_errRowLength {H : Type} : DataW H := .iface "*errors.errorString" (.ptr (.agg [.lit (.string [97, 32, 114, 111, 119, 32, 104, 97, 115, 32, 110, 111, 32, 112, 105, 120, 101, 108, 115, 44, 32, 111, 114, 32, 116, 111, 111, 32, 109, 97, 110, 121])]))
def laid_math_bits_deBruijn32tab {H : Type} : DataW H := .agg [.lit (.int .u8 0), .lit (.int .u8 1), .lit (.int .u8 28), .lit (.int .u8 2), .lit (.int .u8 29), .lit (.int .u8 14), .lit (.int .u8 24), .lit (.int .u8 3), .lit (.int .u8 30), .lit (.int .u8 22), .lit (.int .u8 20), .lit (.int .u8 15), .lit (.int .u8 25), .lit (.int .u8 17), .lit (.int .u8 4), .lit (.int .u8 8), .lit (.int .u8 31), .lit (.int .u8 27), .lit (.int .u8 13), .lit (.int .u8 23), .lit (.int .u8 21), .lit (.int .u8 19), .lit (.int .u8 16), .lit (.int .u8 7), .lit (.int .u8 26), .lit (.int .u8 12), .lit (.int .u8 18), .lit (.int .u8 6), .lit (.int .u8 11), .lit (.int .u8 5), .lit (.int .u8 10), .lit (.int .u8 9)]

/-- 'laws.FnExactPictureFrom': WHATEVER THE INPUT: true; the input reads as it did. -/
def fnExactPictureFromSpec : ChangeSpec := { name := "fnExactPictureFrom", fn := fun _ => fun
  | [d1, d2, d3] => { results := [.lit (.bool true)], args := [d1, d2, d3] }
  | _ => none }
def fnExactPictureFromRow : OpenClaim := { program := "ytmfaonddhmhjeaadoor", sum := "c6b7ebd2b0d7ffb78984da5457c337e3d396f14638eb0bd0262a6b6d947cdf7e", func := "loop.example/g01165/laws.FnExactPictureFrom", spec := "fnExactPictureFrom", named := ["bytes.ErrTooLarge"], apart := false, laid := [("bytes.ErrTooLarge", laid_bytes_ErrTooLarge)] }
def FnExactPictureFromSaid : Prop := fnExactPictureFromRow.holds Tryd.pinned (OpenSpec.ofChange fnExactPictureFromSpec)

/-- ITS FALSE NEIGHBOUR: 'it returns false'. Refute it at one input. -/
def fnExactPictureFromWrong : ChangeSpec := { name := "fnExactPictureFrom", fn := fun _ => fun
  | [d1, d2, d3] => { results := [.lit (.bool false)], args := [d1, d2, d3] }
  | _ => none }
def FnExactPictureFromWrongFalsely : Prop := fnExactPictureFromRow.holds Tryd.pinned (OpenSpec.ofChange fnExactPictureFromWrong)

/-- 'laws.FnExactCropPicture': WHATEVER THE INPUT: true; the input reads as it did. -/
def fnExactCropPictureSpec : ChangeSpec := { name := "fnExactCropPicture", vars := ["loop.example/g01165/impl.errRowLength"], fn := fun _ => fun
  | [d1, d2, d3, d4, g1] => { results := [.lit (.bool true)], args := [d1, d2, d3, d4], vars := [g1] }
  | _ => none }
def fnExactCropPictureRow : OpenClaim := { program := "ytmfaonddhmhjeaadoor", sum := "c6b7ebd2b0d7ffb78984da5457c337e3d396f14638eb0bd0262a6b6d947cdf7e", func := "loop.example/g01165/laws.FnExactCropPicture", spec := "fnExactCropPicture", named := ["loop.example/g01165/impl.errRowLength", "bytes.ErrTooLarge"], ifaces := true, apart := false, laid := [("bytes.ErrTooLarge", laid_bytes_ErrTooLarge), ("loop.example/g01165/impl.errRowLength", laid_loop_example_g01165_impl_errRowLength)] }
def FnExactCropPictureSaid : Prop := fnExactCropPictureRow.holds Tryd.pinned (OpenSpec.ofChange fnExactCropPictureSpec)

/-- ITS FALSE NEIGHBOUR: 'it returns false'. Refute it at one input. -/
def fnExactCropPictureWrong : ChangeSpec := { name := "fnExactCropPicture", vars := ["loop.example/g01165/impl.errRowLength"], fn := fun _ => fun
  | [d1, d2, d3, d4, g1] => { results := [.lit (.bool false)], args := [d1, d2, d3, d4], vars := [g1] }
  | _ => none }
def FnExactCropPictureWrongFalsely : Prop := fnExactCropPictureRow.holds Tryd.pinned (OpenSpec.ofChange fnExactCropPictureWrong)

/-- 'laws.FnExactBoxOf': WHATEVER THE INPUT: true; the input reads as it did. -/
def fnExactBoxOfSpec : ChangeSpec := { name := "fnExactBoxOf", vars := ["loop.example/g01165/impl.errRowLength"], fn := fun _ => fun
  | [d, g1] => { results := [.lit (.bool true)], args := [d], vars := [g1] }
  | _ => none }
def fnExactBoxOfRow : OpenClaim := { program := "ytmfaonddhmhjeaadoor", sum := "c6b7ebd2b0d7ffb78984da5457c337e3d396f14638eb0bd0262a6b6d947cdf7e", func := "loop.example/g01165/laws.FnExactBoxOf", spec := "fnExactBoxOf", named := ["loop.example/g01165/impl.errRowLength", "math/bits.deBruijn32tab"], ifaces := true, apart := false, laid := [("math/bits.deBruijn32tab", laid_math_bits_deBruijn32tab), ("loop.example/g01165/impl.errRowLength", laid_loop_example_g01165_impl_errRowLength)] }
def FnExactBoxOfSaid : Prop := fnExactBoxOfRow.holds Tryd.pinned (OpenSpec.ofChange fnExactBoxOfSpec)

/-- ITS FALSE NEIGHBOUR: 'it returns false'. Refute it at one input. -/
def fnExactBoxOfWrong : ChangeSpec := { name := "fnExactBoxOf", vars := ["loop.example/g01165/impl.errRowLength"], fn := fun _ => fun
  | [d, g1] => { results := [.lit (.bool false)], args := [d], vars := [g1] }
  | _ => none }
def FnExactBoxOfWrongFalsely : Prop := fnExactBoxOfRow.holds Tryd.pinned (OpenSpec.ofChange fnExactBoxOfWrong)

/-- 'laws.FnJoins': WHATEVER THE INPUT: true; the input reads as it did. -/
def fnJoinsSpec : ChangeSpec := { name := "fnJoins", vars := ["loop.example/g01165/impl.errRowLength"], fn := fun _ => fun
  | [d1, d2, g1] => { results := [.lit (.bool true)], args := [d1, d2], vars := [g1] }
  | _ => none }
def fnJoinsRow : OpenClaim := { program := "ytmfaonddhmhjeaadoor", sum := "c6b7ebd2b0d7ffb78984da5457c337e3d396f14638eb0bd0262a6b6d947cdf7e", func := "loop.example/g01165/laws.FnJoins", spec := "fnJoins", named := ["loop.example/g01165/impl.errRowLength", "bytes.ErrTooLarge"], ifaces := true, apart := false, laid := [("bytes.ErrTooLarge", laid_bytes_ErrTooLarge), ("loop.example/g01165/impl.errRowLength", laid_loop_example_g01165_impl_errRowLength)] }
def FnJoinsSaid : Prop := fnJoinsRow.holds Tryd.pinned (OpenSpec.ofChange fnJoinsSpec)

/-- ITS FALSE NEIGHBOUR: 'it returns false'. Refute it at one input. -/
def fnJoinsWrong : ChangeSpec := { name := "fnJoins", vars := ["loop.example/g01165/impl.errRowLength"], fn := fun _ => fun
  | [d1, d2, g1] => { results := [.lit (.bool false)], args := [d1, d2], vars := [g1] }
  | _ => none }
def FnJoinsWrongFalsely : Prop := fnJoinsRow.holds Tryd.pinned (OpenSpec.ofChange fnJoinsWrong)

/- THE SECOND FORM. 'bulk': how many values and letters a reading holds, each counted each time it is reached (what is shared counts as often as it is met; a slice's spare places count too). A statement '..UptoSaid' is the law's where the arguments, and the package variables that the reading takes, are together of bulk at most 1048576: NARROWER than '..Said'. Prove '..Said' where nothing that the law and all that it calls make is longer than what came in: it says more and counts as full. Else prove '..UptoSaid'. A law counts once. -/
mutual
def uptoBulk {H : Type} : DataW H → Nat
  | .lit (.string bytes) => bytes.length + 1
  | .lit _ => 1
  | .nil => 1
  | .ptr d => uptoBulk d + 1
  | .slice elems spare => uptoBulkAll elems + uptoBulkAll spare + 1
  | .agg parts => uptoBulkAll parts + 1
  | .iface _ d => uptoBulk d + 1
  | .map entries => uptoBulkEntries entries + 1
  | .held _ => 1
def uptoBulkAll {H : Type} : List (DataW H) → Nat
  | [] => 0
  | d :: r => uptoBulk d + uptoBulkAll r
def uptoBulkEntries {H : Type} : List (Lit × DataW H) → Nat
  | [] => 0
  | x :: r => uptoBulkEntry x + uptoBulkEntries r
def uptoBulkEntry {H : Type} : Lit × DataW H → Nat
  | (.string bytes, d) => bytes.length + uptoBulk d + 1
  | (_, d) => uptoBulk d + 1
 end
def uptoSmall : (H : Type) → List (DataW H) → Bool := fun _ ds => decide (uptoBulkAll ds ≤ 1048576)
def OpenSpec.upto (s : _root_.Go.ChangeSpec) : _root_.Go.OpenSpec := { _root_.Go.OpenSpec.ofChange s with cond := some uptoSmall }

/-- 'laws.FnExactPictureFrom', WHERE WHAT IT READS IS OF BULK AT MOST 1048576: true; the input reads as it did. -/
def fnExactPictureFromUptoRow : OpenClaim := { program := "ytmfaonddhmhjeaadoor", sum := "c6b7ebd2b0d7ffb78984da5457c337e3d396f14638eb0bd0262a6b6d947cdf7e", func := "loop.example/g01165/laws.FnExactPictureFrom", spec := "fnExactPictureFrom", named := ["bytes.ErrTooLarge"], apart := false, laid := [("bytes.ErrTooLarge", laid_bytes_ErrTooLarge)], narrowed := true }
def FnExactPictureFromUptoSaid : Prop := fnExactPictureFromUptoRow.holds Tryd.pinned (OpenSpec.upto fnExactPictureFromSpec)

/-- 'laws.FnExactCropPicture', WHERE WHAT IT READS IS OF BULK AT MOST 1048576: true; the input reads as it did. -/
def fnExactCropPictureUptoRow : OpenClaim := { program := "ytmfaonddhmhjeaadoor", sum := "c6b7ebd2b0d7ffb78984da5457c337e3d396f14638eb0bd0262a6b6d947cdf7e", func := "loop.example/g01165/laws.FnExactCropPicture", spec := "fnExactCropPicture", named := ["loop.example/g01165/impl.errRowLength", "bytes.ErrTooLarge"], ifaces := true, apart := false, laid := [("bytes.ErrTooLarge", laid_bytes_ErrTooLarge), ("loop.example/g01165/impl.errRowLength", laid_loop_example_g01165_impl_errRowLength)], narrowed := true }
def FnExactCropPictureUptoSaid : Prop := fnExactCropPictureUptoRow.holds Tryd.pinned (OpenSpec.upto fnExactCropPictureSpec)

/-- 'laws.FnExactBoxOf', WHERE WHAT IT READS IS OF BULK AT MOST 1048576: true; the input reads as it did. -/
def fnExactBoxOfUptoRow : OpenClaim := { program := "ytmfaonddhmhjeaadoor", sum := "c6b7ebd2b0d7ffb78984da5457c337e3d396f14638eb0bd0262a6b6d947cdf7e", func := "loop.example/g01165/laws.FnExactBoxOf", spec := "fnExactBoxOf", named := ["loop.example/g01165/impl.errRowLength", "math/bits.deBruijn32tab"], ifaces := true, apart := false, laid := [("math/bits.deBruijn32tab", laid_math_bits_deBruijn32tab), ("loop.example/g01165/impl.errRowLength", laid_loop_example_g01165_impl_errRowLength)], narrowed := true }
def FnExactBoxOfUptoSaid : Prop := fnExactBoxOfUptoRow.holds Tryd.pinned (OpenSpec.upto fnExactBoxOfSpec)

/-- 'laws.FnJoins', WHERE WHAT IT READS IS OF BULK AT MOST 1048576: true; the input reads as it did. -/
def fnJoinsUptoRow : OpenClaim := { program := "ytmfaonddhmhjeaadoor", sum := "c6b7ebd2b0d7ffb78984da5457c337e3d396f14638eb0bd0262a6b6d947cdf7e", func := "loop.example/g01165/laws.FnJoins", spec := "fnJoins", named := ["loop.example/g01165/impl.errRowLength", "bytes.ErrTooLarge"], ifaces := true, apart := false, laid := [("bytes.ErrTooLarge", laid_bytes_ErrTooLarge), ("loop.example/g01165/impl.errRowLength", laid_loop_example_g01165_impl_errRowLength)], narrowed := true }
def FnJoinsUptoSaid : Prop := fnJoinsUptoRow.holds Tryd.pinned (OpenSpec.upto fnJoinsSpec)

end Rows
end Go.Proofs.YtmfaonddhmhjeaaDoor
