/-
  NARROWER THAN 'FOR EVERY INPUT', by the rows' own cells (each row's printed sentence says how): FnExactDilatePicture: ifaces, laid · FnExactErodePicture: ifaces, laid · FnExactOpenPicture: ifaces, laid · FnExactClosePicture: ifaces, laid · FnExactHitOrMiss: ifaces, laid · FnExactSizesOf: ifaces, laid · FnExactReconstructPicture: ifaces, laid · FnExactFillHoles: ifaces, laid.
  DERIVED. THE GIVEN ROWS OF THIS SEAT. 8 by the template 'for every input the law returns true; each argument reads behind the call as it read before'; 0 by the template 'total and deterministic' (their statements: YtenbhnfajjknkaaDoorTotals.lean).
  GIVEN WITH THE SEED: the statements are not yours to turn. If you find one false, say at which input.
  Laid BY PROGRAM, IN A SANDBOX (cutbox-rows.mjs): the forced cells as the released guide's own fill.sh prints them over the translation 2246caad54f351e3… (all of the seat's roots in one cut). By AI agents, Wed Nov 11 2026. No macro, syntax, notation, axiom, sorry.
-/
import Derived.Test.YtenbhnfajjknkaaDoorChecked
import GoSem.Claim
import GoSem.ClaimJoined
import GoSem.ClaimMapViews
import Derived.JoinedTies
import Derived.KernelRfl
namespace Go.Proofs.YtenbhnfajjknkaaDoor
/- THE CELL 'sum', in the pinned program and in every row, IS THE sha256 OF THE DUMP (.gsa) THAT YtenbhnfajjknkaaDoorProg.lean LOADS. Nothing in Lean hashes anything: it is a label: what it is worth is what the hold of that sum in a sandbox is worth. -/
noncomputable def Tryd.pinned : Pinned := { name := "ytenbhnfajjknkaadoor", sum := "2246caad54f351e382a2bbbd6f3b99cd0f6ad72bce0e3953eaad6b82df2c0a10", checked := Tryd.checked }
namespace Rows
def none {H : Type} : Left H := { results := [], args := [] }

/- WHAT THE LISTED PACKAGE-LEVEL VARIABLES READ AS WHEN THE CALL BEGINS. Each datum BY PROGRAM (the guide's laid-datum.mjs) off the statement by which the dump's own 'gosem.cut.vars' lays the variable. In a bare row this is a premise. The card (YtenbhnfajjknkaaDoorCards.lean) ties it to the program's text. -/
def laid_bytes_ErrTooLarge {H : Type} : DataW H := .iface "*errors.errorString" (.ptr (.agg [.lit (.string [98, 121, 116, 101, 115, 46, 66, 117, 102, 102, 101, 114, 58, 32, 116, 111, 111, 32, 108, 97, 114, 103, 101])]))
def laid_loop_example_g01165_impl_errRowLength {H : Type} : DataW H := .iface "*errors.errorString" (.ptr (.agg [.lit (.string [97, 32, 114, 111, 119, 32, 104, 97, 115, 32, 110, 111, 32, 112, 105, 120, 101, 108, 115, 44, 32, 111, 114, 32, 116, 111, 111, 32, 109, 97, 110, 121])]))

/-- 'laws.FnExactDilatePicture': WHATEVER THE INPUT: true; the input reads as it did. -/
def fnExactDilatePictureSpec : ChangeSpec := { name := "fnExactDilatePicture", vars := ["loop.example/g01165/impl.errRowLength"], fn := fun _ => fun
  | [d1, d2, g1] => { results := [.lit (.bool true)], args := [d1, d2], vars := [g1] }
  | _ => none }
def fnExactDilatePictureRow : OpenClaim := { program := "ytenbhnfajjknkaadoor", sum := "2246caad54f351e382a2bbbd6f3b99cd0f6ad72bce0e3953eaad6b82df2c0a10", func := "loop.example/g01165/laws.FnExactDilatePicture", spec := "fnExactDilatePicture", unfollowed := true, recurses := true, named := ["loop.example/g01165/impl.errRowLength", "bytes.ErrTooLarge"], ifaces := true, plainKeys := false, apart := false, laid := [("bytes.ErrTooLarge", laid_bytes_ErrTooLarge), ("loop.example/g01165/impl.errRowLength", laid_loop_example_g01165_impl_errRowLength)] }
def FnExactDilatePictureSaid : Prop := fnExactDilatePictureRow.holds Tryd.pinned (OpenSpec.ofChange fnExactDilatePictureSpec)

/-- ITS FALSE NEIGHBOUR: 'it returns false'. Refute it at one input. -/
def fnExactDilatePictureWrong : ChangeSpec := { name := "fnExactDilatePicture", vars := ["loop.example/g01165/impl.errRowLength"], fn := fun _ => fun
  | [d1, d2, g1] => { results := [.lit (.bool false)], args := [d1, d2], vars := [g1] }
  | _ => none }
def FnExactDilatePictureWrongFalsely : Prop := fnExactDilatePictureRow.holds Tryd.pinned (OpenSpec.ofChange fnExactDilatePictureWrong)

/-- 'laws.FnExactErodePicture': WHATEVER THE INPUT: true; the input reads as it did. -/
def fnExactErodePictureSpec : ChangeSpec := { name := "fnExactErodePicture", vars := ["loop.example/g01165/impl.errRowLength"], fn := fun _ => fun
  | [d1, d2, g1] => { results := [.lit (.bool true)], args := [d1, d2], vars := [g1] }
  | _ => none }
def fnExactErodePictureRow : OpenClaim := { program := "ytenbhnfajjknkaadoor", sum := "2246caad54f351e382a2bbbd6f3b99cd0f6ad72bce0e3953eaad6b82df2c0a10", func := "loop.example/g01165/laws.FnExactErodePicture", spec := "fnExactErodePicture", unfollowed := true, recurses := true, named := ["loop.example/g01165/impl.errRowLength", "bytes.ErrTooLarge"], ifaces := true, plainKeys := false, apart := false, laid := [("bytes.ErrTooLarge", laid_bytes_ErrTooLarge), ("loop.example/g01165/impl.errRowLength", laid_loop_example_g01165_impl_errRowLength)] }
def FnExactErodePictureSaid : Prop := fnExactErodePictureRow.holds Tryd.pinned (OpenSpec.ofChange fnExactErodePictureSpec)

/-- ITS FALSE NEIGHBOUR: 'it returns false'. Refute it at one input. -/
def fnExactErodePictureWrong : ChangeSpec := { name := "fnExactErodePicture", vars := ["loop.example/g01165/impl.errRowLength"], fn := fun _ => fun
  | [d1, d2, g1] => { results := [.lit (.bool false)], args := [d1, d2], vars := [g1] }
  | _ => none }
def FnExactErodePictureWrongFalsely : Prop := fnExactErodePictureRow.holds Tryd.pinned (OpenSpec.ofChange fnExactErodePictureWrong)

/-- 'laws.FnExactOpenPicture': WHATEVER THE INPUT: true; the input reads as it did. -/
def fnExactOpenPictureSpec : ChangeSpec := { name := "fnExactOpenPicture", vars := ["loop.example/g01165/impl.errRowLength"], fn := fun _ => fun
  | [d1, d2, g1] => { results := [.lit (.bool true)], args := [d1, d2], vars := [g1] }
  | _ => none }
def fnExactOpenPictureRow : OpenClaim := { program := "ytenbhnfajjknkaadoor", sum := "2246caad54f351e382a2bbbd6f3b99cd0f6ad72bce0e3953eaad6b82df2c0a10", func := "loop.example/g01165/laws.FnExactOpenPicture", spec := "fnExactOpenPicture", unfollowed := true, recurses := true, named := ["loop.example/g01165/impl.errRowLength", "bytes.ErrTooLarge"], ifaces := true, plainKeys := false, apart := false, laid := [("bytes.ErrTooLarge", laid_bytes_ErrTooLarge), ("loop.example/g01165/impl.errRowLength", laid_loop_example_g01165_impl_errRowLength)] }
def FnExactOpenPictureSaid : Prop := fnExactOpenPictureRow.holds Tryd.pinned (OpenSpec.ofChange fnExactOpenPictureSpec)

/-- ITS FALSE NEIGHBOUR: 'it returns false'. Refute it at one input. -/
def fnExactOpenPictureWrong : ChangeSpec := { name := "fnExactOpenPicture", vars := ["loop.example/g01165/impl.errRowLength"], fn := fun _ => fun
  | [d1, d2, g1] => { results := [.lit (.bool false)], args := [d1, d2], vars := [g1] }
  | _ => none }
def FnExactOpenPictureWrongFalsely : Prop := fnExactOpenPictureRow.holds Tryd.pinned (OpenSpec.ofChange fnExactOpenPictureWrong)

/-- 'laws.FnExactClosePicture': WHATEVER THE INPUT: true; the input reads as it did. -/
def fnExactClosePictureSpec : ChangeSpec := { name := "fnExactClosePicture", vars := ["loop.example/g01165/impl.errRowLength"], fn := fun _ => fun
  | [d1, d2, g1] => { results := [.lit (.bool true)], args := [d1, d2], vars := [g1] }
  | _ => none }
def fnExactClosePictureRow : OpenClaim := { program := "ytenbhnfajjknkaadoor", sum := "2246caad54f351e382a2bbbd6f3b99cd0f6ad72bce0e3953eaad6b82df2c0a10", func := "loop.example/g01165/laws.FnExactClosePicture", spec := "fnExactClosePicture", unfollowed := true, recurses := true, named := ["loop.example/g01165/impl.errRowLength", "bytes.ErrTooLarge"], ifaces := true, plainKeys := false, apart := false, laid := [("bytes.ErrTooLarge", laid_bytes_ErrTooLarge), ("loop.example/g01165/impl.errRowLength", laid_loop_example_g01165_impl_errRowLength)] }
def FnExactClosePictureSaid : Prop := fnExactClosePictureRow.holds Tryd.pinned (OpenSpec.ofChange fnExactClosePictureSpec)

/-- ITS FALSE NEIGHBOUR: 'it returns false'. Refute it at one input. -/
def fnExactClosePictureWrong : ChangeSpec := { name := "fnExactClosePicture", vars := ["loop.example/g01165/impl.errRowLength"], fn := fun _ => fun
  | [d1, d2, g1] => { results := [.lit (.bool false)], args := [d1, d2], vars := [g1] }
  | _ => none }
def FnExactClosePictureWrongFalsely : Prop := fnExactClosePictureRow.holds Tryd.pinned (OpenSpec.ofChange fnExactClosePictureWrong)

/-- 'laws.FnExactHitOrMiss': WHATEVER THE INPUT: true; the input reads as it did. -/
def fnExactHitOrMissSpec : ChangeSpec := { name := "fnExactHitOrMiss", vars := ["loop.example/g01165/impl.errRowLength"], fn := fun _ => fun
  | [d1, d2, d3, g1] => { results := [.lit (.bool true)], args := [d1, d2, d3], vars := [g1] }
  | _ => none }
def fnExactHitOrMissRow : OpenClaim := { program := "ytenbhnfajjknkaadoor", sum := "2246caad54f351e382a2bbbd6f3b99cd0f6ad72bce0e3953eaad6b82df2c0a10", func := "loop.example/g01165/laws.FnExactHitOrMiss", spec := "fnExactHitOrMiss", unfollowed := true, recurses := true, named := ["loop.example/g01165/impl.errRowLength", "bytes.ErrTooLarge"], ifaces := true, plainKeys := false, apart := false, laid := [("bytes.ErrTooLarge", laid_bytes_ErrTooLarge), ("loop.example/g01165/impl.errRowLength", laid_loop_example_g01165_impl_errRowLength)] }
def FnExactHitOrMissSaid : Prop := fnExactHitOrMissRow.holds Tryd.pinned (OpenSpec.ofChange fnExactHitOrMissSpec)

/-- ITS FALSE NEIGHBOUR: 'it returns false'. Refute it at one input. -/
def fnExactHitOrMissWrong : ChangeSpec := { name := "fnExactHitOrMiss", vars := ["loop.example/g01165/impl.errRowLength"], fn := fun _ => fun
  | [d1, d2, d3, g1] => { results := [.lit (.bool false)], args := [d1, d2, d3], vars := [g1] }
  | _ => none }
def FnExactHitOrMissWrongFalsely : Prop := fnExactHitOrMissRow.holds Tryd.pinned (OpenSpec.ofChange fnExactHitOrMissWrong)

/-- 'laws.FnExactSizesOf': WHATEVER THE INPUT: true; the input reads as it did. -/
def fnExactSizesOfSpec : ChangeSpec := { name := "fnExactSizesOf", vars := ["loop.example/g01165/impl.errRowLength"], fn := fun _ => fun
  | [d, g1] => { results := [.lit (.bool true)], args := [d], vars := [g1] }
  | _ => none }
def fnExactSizesOfRow : OpenClaim := { program := "ytenbhnfajjknkaadoor", sum := "2246caad54f351e382a2bbbd6f3b99cd0f6ad72bce0e3953eaad6b82df2c0a10", func := "loop.example/g01165/laws.FnExactSizesOf", spec := "fnExactSizesOf", unfollowed := true, recurses := true, named := ["loop.example/g01165/impl.errRowLength", "bytes.ErrTooLarge"], ifaces := true, plainKeys := false, apart := false, laid := [("bytes.ErrTooLarge", laid_bytes_ErrTooLarge), ("loop.example/g01165/impl.errRowLength", laid_loop_example_g01165_impl_errRowLength)] }
def FnExactSizesOfSaid : Prop := fnExactSizesOfRow.holds Tryd.pinned (OpenSpec.ofChange fnExactSizesOfSpec)

/-- ITS FALSE NEIGHBOUR: 'it returns false'. Refute it at one input. -/
def fnExactSizesOfWrong : ChangeSpec := { name := "fnExactSizesOf", vars := ["loop.example/g01165/impl.errRowLength"], fn := fun _ => fun
  | [d, g1] => { results := [.lit (.bool false)], args := [d], vars := [g1] }
  | _ => none }
def FnExactSizesOfWrongFalsely : Prop := fnExactSizesOfRow.holds Tryd.pinned (OpenSpec.ofChange fnExactSizesOfWrong)

/-- 'laws.FnExactReconstructPicture': WHATEVER THE INPUT: true; the input reads as it did. -/
def fnExactReconstructPictureSpec : ChangeSpec := { name := "fnExactReconstructPicture", vars := ["loop.example/g01165/impl.errRowLength"], fn := fun _ => fun
  | [d1, d2, d3, g1] => { results := [.lit (.bool true)], args := [d1, d2, d3], vars := [g1] }
  | _ => none }
def fnExactReconstructPictureRow : OpenClaim := { program := "ytenbhnfajjknkaadoor", sum := "2246caad54f351e382a2bbbd6f3b99cd0f6ad72bce0e3953eaad6b82df2c0a10", func := "loop.example/g01165/laws.FnExactReconstructPicture", spec := "fnExactReconstructPicture", unfollowed := true, recurses := true, named := ["loop.example/g01165/impl.errRowLength", "bytes.ErrTooLarge"], ifaces := true, plainKeys := false, apart := false, laid := [("bytes.ErrTooLarge", laid_bytes_ErrTooLarge), ("loop.example/g01165/impl.errRowLength", laid_loop_example_g01165_impl_errRowLength)] }
def FnExactReconstructPictureSaid : Prop := fnExactReconstructPictureRow.holds Tryd.pinned (OpenSpec.ofChange fnExactReconstructPictureSpec)

/-- ITS FALSE NEIGHBOUR: 'it returns false'. Refute it at one input. -/
def fnExactReconstructPictureWrong : ChangeSpec := { name := "fnExactReconstructPicture", vars := ["loop.example/g01165/impl.errRowLength"], fn := fun _ => fun
  | [d1, d2, d3, g1] => { results := [.lit (.bool false)], args := [d1, d2, d3], vars := [g1] }
  | _ => none }
def FnExactReconstructPictureWrongFalsely : Prop := fnExactReconstructPictureRow.holds Tryd.pinned (OpenSpec.ofChange fnExactReconstructPictureWrong)

/-- 'laws.FnExactFillHoles': WHATEVER THE INPUT: true; the input reads as it did. -/
def fnExactFillHolesSpec : ChangeSpec := { name := "fnExactFillHoles", vars := ["loop.example/g01165/impl.errRowLength"], fn := fun _ => fun
  | [d1, d2, g1] => { results := [.lit (.bool true)], args := [d1, d2], vars := [g1] }
  | _ => none }
def fnExactFillHolesRow : OpenClaim := { program := "ytenbhnfajjknkaadoor", sum := "2246caad54f351e382a2bbbd6f3b99cd0f6ad72bce0e3953eaad6b82df2c0a10", func := "loop.example/g01165/laws.FnExactFillHoles", spec := "fnExactFillHoles", unfollowed := true, recurses := true, named := ["loop.example/g01165/impl.errRowLength", "bytes.ErrTooLarge"], ifaces := true, plainKeys := false, apart := false, laid := [("bytes.ErrTooLarge", laid_bytes_ErrTooLarge), ("loop.example/g01165/impl.errRowLength", laid_loop_example_g01165_impl_errRowLength)] }
def FnExactFillHolesSaid : Prop := fnExactFillHolesRow.holds Tryd.pinned (OpenSpec.ofChange fnExactFillHolesSpec)

/-- ITS FALSE NEIGHBOUR: 'it returns false'. Refute it at one input. -/
def fnExactFillHolesWrong : ChangeSpec := { name := "fnExactFillHoles", vars := ["loop.example/g01165/impl.errRowLength"], fn := fun _ => fun
  | [d1, d2, g1] => { results := [.lit (.bool false)], args := [d1, d2], vars := [g1] }
  | _ => none }
def FnExactFillHolesWrongFalsely : Prop := fnExactFillHolesRow.holds Tryd.pinned (OpenSpec.ofChange fnExactFillHolesWrong)

/- THE SECOND FORM. 'bulk': how many values and letters a reading holds, each counted each time it is reached (what is shared counts as often as it is met; a slice's spare places count too). A statement '..UptoSaid' is the law's where the arguments, and the package variables that the reading takes, are together of bulk at most 1048576: NARROWER than '..Said'. Prove '..Said' where nothing that the law and all that it calls make is longer than what came in: it says more and counts as full. Else prove '..UptoSaid'. A law counts once. -/
mutual
def uptoBulk {H : Type} : DataW H → Nat
  | .lit (.string bytes) => bytes.length + 1
  | .lit _ => 1
  | .nil => 1
  | .ptr d => uptoBulk d + 1
  | .slice elems spare => uptoBulkAll elems + uptoBulkAll spare + 1
  | .agg parts => uptoBulkAll parts + 1
  | .iface _ d => uptoBulk d + 1
  | .map entries => uptoBulkEntries entries + 1
  | .held _ => 1
def uptoBulkAll {H : Type} : List (DataW H) → Nat
  | [] => 0
  | d :: r => uptoBulk d + uptoBulkAll r
def uptoBulkEntries {H : Type} : List (Lit × DataW H) → Nat
  | [] => 0
  | x :: r => uptoBulkEntry x + uptoBulkEntries r
def uptoBulkEntry {H : Type} : Lit × DataW H → Nat
  | (.string bytes, d) => bytes.length + uptoBulk d + 1
  | (_, d) => uptoBulk d + 1
 end
def uptoSmall : (H : Type) → List (DataW H) → Bool := fun _ ds => decide (uptoBulkAll ds ≤ 1048576)
def OpenSpec.upto (s : _root_.Go.ChangeSpec) : _root_.Go.OpenSpec := { _root_.Go.OpenSpec.ofChange s with cond := some uptoSmall }

/-- 'laws.FnExactDilatePicture', WHERE WHAT IT READS IS OF BULK AT MOST 1048576: true; the input reads as it did. -/
def fnExactDilatePictureUptoRow : OpenClaim := { program := "ytenbhnfajjknkaadoor", sum := "2246caad54f351e382a2bbbd6f3b99cd0f6ad72bce0e3953eaad6b82df2c0a10", func := "loop.example/g01165/laws.FnExactDilatePicture", spec := "fnExactDilatePicture", unfollowed := true, recurses := true, named := ["loop.example/g01165/impl.errRowLength", "bytes.ErrTooLarge"], ifaces := true, plainKeys := false, apart := false, laid := [("bytes.ErrTooLarge", laid_bytes_ErrTooLarge), ("loop.example/g01165/impl.errRowLength", laid_loop_example_g01165_impl_errRowLength)], narrowed := true }
def FnExactDilatePictureUptoSaid : Prop := fnExactDilatePictureUptoRow.holds Tryd.pinned (OpenSpec.upto fnExactDilatePictureSpec)

/-- 'laws.FnExactErodePicture', WHERE WHAT IT READS IS OF BULK AT MOST 1048576: true; the input reads as it did. -/
def fnExactErodePictureUptoRow : OpenClaim := { program := "ytenbhnfajjknkaadoor", sum := "2246caad54f351e382a2bbbd6f3b99cd0f6ad72bce0e3953eaad6b82df2c0a10", func := "loop.example/g01165/laws.FnExactErodePicture", spec := "fnExactErodePicture", unfollowed := true, recurses := true, named := ["loop.example/g01165/impl.errRowLength", "bytes.ErrTooLarge"], ifaces := true, plainKeys := false, apart := false, laid := [("bytes.ErrTooLarge", laid_bytes_ErrTooLarge), ("loop.example/g01165/impl.errRowLength", laid_loop_example_g01165_impl_errRowLength)], narrowed := true }
def FnExactErodePictureUptoSaid : Prop := fnExactErodePictureUptoRow.holds Tryd.pinned (OpenSpec.upto fnExactErodePictureSpec)

/-- 'laws.FnExactOpenPicture', WHERE WHAT IT READS IS OF BULK AT MOST 1048576: true; the input reads as it did. -/
def fnExactOpenPictureUptoRow : OpenClaim := { program := "ytenbhnfajjknkaadoor", sum := "2246caad54f351e382a2bbbd6f3b99cd0f6ad72bce0e3953eaad6b82df2c0a10", func := "loop.example/g01165/laws.FnExactOpenPicture", spec := "fnExactOpenPicture", unfollowed := true, recurses := true, named := ["loop.example/g01165/impl.errRowLength", "bytes.ErrTooLarge"], ifaces := true, plainKeys := false, apart := false, laid := [("bytes.ErrTooLarge", laid_bytes_ErrTooLarge), ("loop.example/g01165/impl.errRowLength", laid_loop_example_g01165_impl_errRowLength)], narrowed := true }
def FnExactOpenPictureUptoSaid : Prop := fnExactOpenPictureUptoRow.holds Tryd.pinned (OpenSpec.upto fnExactOpenPictureSpec)

/-- 'laws.FnExactClosePicture', WHERE WHAT IT READS IS OF BULK AT MOST 1048576: true; the input reads as it did. -/
def fnExactClosePictureUptoRow : OpenClaim := { program := "ytenbhnfajjknkaadoor", sum := "2246caad54f351e382a2bbbd6f3b99cd0f6ad72bce0e3953eaad6b82df2c0a10", func := "loop.example/g01165/laws.FnExactClosePicture", spec := "fnExactClosePicture", unfollowed := true, recurses := true, named := ["loop.example/g01165/impl.errRowLength", "bytes.ErrTooLarge"], ifaces := true, plainKeys := false, apart := false, laid := [("bytes.ErrTooLarge", laid_bytes_ErrTooLarge), ("loop.example/g01165/impl.errRowLength", laid_loop_example_g01165_impl_errRowLength)], narrowed := true }
def FnExactClosePictureUptoSaid : Prop := fnExactClosePictureUptoRow.holds Tryd.pinned (OpenSpec.upto fnExactClosePictureSpec)

/-- 'laws.FnExactHitOrMiss', WHERE WHAT IT READS IS OF BULK AT MOST 1048576: true; the input reads as it did. -/
def fnExactHitOrMissUptoRow : OpenClaim := { program := "ytenbhnfajjknkaadoor", sum := "2246caad54f351e382a2bbbd6f3b99cd0f6ad72bce0e3953eaad6b82df2c0a10", func := "loop.example/g01165/laws.FnExactHitOrMiss", spec := "fnExactHitOrMiss", unfollowed := true, recurses := true, named := ["loop.example/g01165/impl.errRowLength", "bytes.ErrTooLarge"], ifaces := true, plainKeys := false, apart := false, laid := [("bytes.ErrTooLarge", laid_bytes_ErrTooLarge), ("loop.example/g01165/impl.errRowLength", laid_loop_example_g01165_impl_errRowLength)], narrowed := true }
def FnExactHitOrMissUptoSaid : Prop := fnExactHitOrMissUptoRow.holds Tryd.pinned (OpenSpec.upto fnExactHitOrMissSpec)

/-- 'laws.FnExactSizesOf', WHERE WHAT IT READS IS OF BULK AT MOST 1048576: true; the input reads as it did. -/
def fnExactSizesOfUptoRow : OpenClaim := { program := "ytenbhnfajjknkaadoor", sum := "2246caad54f351e382a2bbbd6f3b99cd0f6ad72bce0e3953eaad6b82df2c0a10", func := "loop.example/g01165/laws.FnExactSizesOf", spec := "fnExactSizesOf", unfollowed := true, recurses := true, named := ["loop.example/g01165/impl.errRowLength", "bytes.ErrTooLarge"], ifaces := true, plainKeys := false, apart := false, laid := [("bytes.ErrTooLarge", laid_bytes_ErrTooLarge), ("loop.example/g01165/impl.errRowLength", laid_loop_example_g01165_impl_errRowLength)], narrowed := true }
def FnExactSizesOfUptoSaid : Prop := fnExactSizesOfUptoRow.holds Tryd.pinned (OpenSpec.upto fnExactSizesOfSpec)

/-- 'laws.FnExactReconstructPicture', WHERE WHAT IT READS IS OF BULK AT MOST 1048576: true; the input reads as it did. -/
def fnExactReconstructPictureUptoRow : OpenClaim := { program := "ytenbhnfajjknkaadoor", sum := "2246caad54f351e382a2bbbd6f3b99cd0f6ad72bce0e3953eaad6b82df2c0a10", func := "loop.example/g01165/laws.FnExactReconstructPicture", spec := "fnExactReconstructPicture", unfollowed := true, recurses := true, named := ["loop.example/g01165/impl.errRowLength", "bytes.ErrTooLarge"], ifaces := true, plainKeys := false, apart := false, laid := [("bytes.ErrTooLarge", laid_bytes_ErrTooLarge), ("loop.example/g01165/impl.errRowLength", laid_loop_example_g01165_impl_errRowLength)], narrowed := true }
def FnExactReconstructPictureUptoSaid : Prop := fnExactReconstructPictureUptoRow.holds Tryd.pinned (OpenSpec.upto fnExactReconstructPictureSpec)

/-- 'laws.FnExactFillHoles', WHERE WHAT IT READS IS OF BULK AT MOST 1048576: true; the input reads as it did. -/
def fnExactFillHolesUptoRow : OpenClaim := { program := "ytenbhnfajjknkaadoor", sum := "2246caad54f351e382a2bbbd6f3b99cd0f6ad72bce0e3953eaad6b82df2c0a10", func := "loop.example/g01165/laws.FnExactFillHoles", spec := "fnExactFillHoles", unfollowed := true, recurses := true, named := ["loop.example/g01165/impl.errRowLength", "bytes.ErrTooLarge"], ifaces := true, plainKeys := false, apart := false, laid := [("bytes.ErrTooLarge", laid_bytes_ErrTooLarge), ("loop.example/g01165/impl.errRowLength", laid_loop_example_g01165_impl_errRowLength)], narrowed := true }
def FnExactFillHolesUptoSaid : Prop := fnExactFillHolesUptoRow.holds Tryd.pinned (OpenSpec.upto fnExactFillHolesSpec)

end Rows
end Go.Proofs.YtenbhnfajjknkaaDoor
