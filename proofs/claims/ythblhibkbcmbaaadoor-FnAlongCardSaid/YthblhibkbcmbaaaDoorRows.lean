/-
  NARROWER THAN 'FOR EVERY INPUT', by the rows' own cells (each row's printed sentence says how): FnExactPictureAlong: ifaces, laid · FnExactPictureFromRuns: ifaces, laid · FnAlong: ifaces, laid.
  DERIVED. THE GIVEN ROWS OF THIS SEAT. 3 by the template 'for every input the law returns true; each argument reads behind the call as it read before'; 0 by the template 'total and deterministic' (their statements: YthblhibkbcmbaaaDoorTotals.lean).
  GIVEN WITH THE SEED: the statements are not yours to turn. If you find one false, say at which input.
  Laid BY PROGRAM, IN A SANDBOX (cutbox-rows.mjs): the forced cells as the released guide's own fill.sh prints them over the translation 8f0a6a1846697ed9… (all of the seat's roots in one cut). By AI agents, Wed Nov 11 2026. No macro, syntax, notation, axiom, sorry.
-/
import Derived.Test.YthblhibkbcmbaaaDoorChecked
import GoSem.Claim
import GoSem.ClaimJoined
import GoSem.ClaimMapViews
import Derived.JoinedTies
import Derived.KernelRfl
namespace Go.Proofs.YthblhibkbcmbaaaDoor
/- THE CELL 'sum', in the pinned program and in every row, IS THE sha256 OF THE DUMP (.gsa) THAT YthblhibkbcmbaaaDoorProg.lean LOADS. Nothing in Lean hashes anything: it is a label: what it is worth is what the hold of that sum in a sandbox is worth. -/
noncomputable def Tryd.pinned : Pinned := { name := "ythblhibkbcmbaaadoor", sum := "8f0a6a1846697ed9ffc80fefa93cb8e13cd6ca9457358053e96688db80ae26d7", checked := Tryd.checked }
namespace Rows
def none {H : Type} : Left H := { results := [], args := [] }

/- WHAT THE LISTED PACKAGE-LEVEL VARIABLES READ AS WHEN THE CALL BEGINS. Each datum BY PROGRAM (the guide's laid-datum.mjs) off the statement by which the dump's own 'gosem.cut.vars' lays the variable. In a bare row this is a premise. The card (YthblhibkbcmbaaaDoorCards.lean) ties it to the program's text. -/
def laid_math_bits_deBruijn64tab {H : Type} : DataW H := .agg [.lit (.int .u8 0), .lit (.int .u8 1), .lit (.int .u8 56), .lit (.int .u8 2), .lit (.int .u8 57), .lit (.int .u8 49), .lit (.int .u8 28), .lit (.int .u8 3), .lit (.int .u8 61), .lit (.int .u8 58), .lit (.int .u8 42), .lit (.int .u8 50), .lit (.int .u8 38), .lit (.int .u8 29), .lit (.int .u8 17), .lit (.int .u8 4), .lit (.int .u8 62), .lit (.int .u8 47), .lit (.int .u8 59), .lit (.int .u8 36), .lit (.int .u8 45), .lit (.int .u8 43), .lit (.int .u8 51), .lit (.int .u8 22), .lit (.int .u8 53), .lit (.int .u8 39), .lit (.int .u8 33), .lit (.int .u8 30), .lit (.int .u8 24), .lit (.int .u8 18), .lit (.int .u8 12), .lit (.int .u8 5), .lit (.int .u8 63), .lit (.int .u8 55), .lit (.int .u8 48), .lit (.int .u8 27), .lit (.int .u8 60), .lit (.int .u8 41), .lit (.int .u8 37), .lit (.int .u8 16), .lit (.int .u8 46), .lit (.int .u8 35), .lit (.int .u8 44), .lit (.int .u8 21), .lit (.int .u8 52), .lit (.int .u8 32), .lit (.int .u8 23), .lit (.int .u8 11), .lit (.int .u8 54), .lit (.int .u8 26), .lit (.int .u8 40), .lit (.int .u8 15), .lit (.int .u8 34), .lit (.int .u8 20), .lit (.int .u8 31), .lit (.int .u8 10), .lit (.int .u8 25), .lit (.int .u8 14), .lit (.int .u8 19), .lit (.int .u8 9), .lit (.int .u8 13), .lit (.int .u8 8), .lit (.int .u8 7), .lit (.int .u8 6)]
def laid_loop_example_g01165_impl_errRowLength {H : Type} : DataW H := .iface "*errors.errorString" (.ptr (.agg [.lit (.string [97, 32, 114, 111, 119, 32, 104, 97, 115, 32, 110, 111, 32, 112, 105, 120, 101, 108, 115, 44, 32, 111, 114, 32, 116, 111, 111, 32, 109, 97, 110, 121])]))
def laid_loop_example_g01165_impl_errNoResult {H : Type} : DataW H := .iface "*errors.errorString" (.ptr (.agg [.lit (.string [116, 104, 101, 32, 114, 101, 115, 117, 108, 116, 32, 100, 111, 101, 115, 32, 110, 111, 116, 32, 101, 120, 105, 115, 116])]))
def laid_loop_example_g01165_impl_quarterVisits {H : Type} : DataW H := .agg [.agg [.agg [.agg [.lit (.int .i64 0), .lit (.int .i64 0)], .lit (.int .i64 0)], .agg [.agg [.lit (.int .i64 1), .lit (.int .i64 0)], .lit (.int .i64 0)], .agg [.agg [.lit (.int .i64 0), .lit (.int .i64 1)], .lit (.int .i64 0)], .agg [.agg [.lit (.int .i64 1), .lit (.int .i64 1)], .lit (.int .i64 0)]], .agg [.agg [.agg [.lit (.int .i64 0), .lit (.int .i64 0)], .lit (.int .i64 2)], .agg [.agg [.lit (.int .i64 0), .lit (.int .i64 1)], .lit (.int .i64 1)], .agg [.agg [.lit (.int .i64 1), .lit (.int .i64 1)], .lit (.int .i64 1)], .agg [.agg [.lit (.int .i64 1), .lit (.int .i64 0)], .lit (.int .i64 3)]], .agg [.agg [.agg [.lit (.int .i64 0), .lit (.int .i64 0)], .lit (.int .i64 1)], .agg [.agg [.lit (.int .i64 1), .lit (.int .i64 0)], .lit (.int .i64 2)], .agg [.agg [.lit (.int .i64 1), .lit (.int .i64 1)], .lit (.int .i64 2)], .agg [.agg [.lit (.int .i64 0), .lit (.int .i64 1)], .lit (.int .i64 4)]], .agg [.agg [.agg [.lit (.int .i64 1), .lit (.int .i64 1)], .lit (.int .i64 4)], .agg [.agg [.lit (.int .i64 0), .lit (.int .i64 1)], .lit (.int .i64 3)], .agg [.agg [.lit (.int .i64 0), .lit (.int .i64 0)], .lit (.int .i64 3)], .agg [.agg [.lit (.int .i64 1), .lit (.int .i64 0)], .lit (.int .i64 1)]], .agg [.agg [.agg [.lit (.int .i64 1), .lit (.int .i64 1)], .lit (.int .i64 3)], .agg [.agg [.lit (.int .i64 1), .lit (.int .i64 0)], .lit (.int .i64 4)], .agg [.agg [.lit (.int .i64 0), .lit (.int .i64 0)], .lit (.int .i64 4)], .agg [.agg [.lit (.int .i64 0), .lit (.int .i64 1)], .lit (.int .i64 2)]]]
def laid_bytes_ErrTooLarge {H : Type} : DataW H := .iface "*errors.errorString" (.ptr (.agg [.lit (.string [98, 121, 116, 101, 115, 46, 66, 117, 102, 102, 101, 114, 58, 32, 116, 111, 111, 32, 108, 97, 114, 103, 101])]))

/-- 'laws.FnExactPictureAlong': WHATEVER THE INPUT: true; the input reads as it did. -/
def fnExactPictureAlongSpec : ChangeSpec := { name := "fnExactPictureAlong", vars := ["loop.example/g01165/impl.errRowLength", "loop.example/g01165/impl.errNoResult", "loop.example/g01165/impl.quarterVisits"], fn := fun _ => fun
  | [d1, d2, g1, g2, g3] => { results := [.lit (.bool true)], args := [d1, d2], vars := [g1, g2, g3] }
  | _ => none }
def fnExactPictureAlongRow : OpenClaim := { program := "ythblhibkbcmbaaadoor", sum := "8f0a6a1846697ed9ffc80fefa93cb8e13cd6ca9457358053e96688db80ae26d7", func := "loop.example/g01165/laws.FnExactPictureAlong", spec := "fnExactPictureAlong", unfollowed := true, recurses := true, named := ["loop.example/g01165/impl.errRowLength", "loop.example/g01165/impl.errNoResult", "math/bits.deBruijn64tab", "loop.example/g01165/impl.quarterVisits"], ifaces := true, apart := false, laid := [("math/bits.deBruijn64tab", laid_math_bits_deBruijn64tab), ("loop.example/g01165/impl.errRowLength", laid_loop_example_g01165_impl_errRowLength), ("loop.example/g01165/impl.errNoResult", laid_loop_example_g01165_impl_errNoResult), ("loop.example/g01165/impl.quarterVisits", laid_loop_example_g01165_impl_quarterVisits)] }
def FnExactPictureAlongSaid : Prop := fnExactPictureAlongRow.holds Tryd.pinned (OpenSpec.ofChange fnExactPictureAlongSpec)

/-- ITS FALSE NEIGHBOUR: 'it returns false'. Refute it at one input. -/
def fnExactPictureAlongWrong : ChangeSpec := { name := "fnExactPictureAlong", vars := ["loop.example/g01165/impl.errRowLength", "loop.example/g01165/impl.errNoResult", "loop.example/g01165/impl.quarterVisits"], fn := fun _ => fun
  | [d1, d2, g1, g2, g3] => { results := [.lit (.bool false)], args := [d1, d2], vars := [g1, g2, g3] }
  | _ => none }
def FnExactPictureAlongWrongFalsely : Prop := fnExactPictureAlongRow.holds Tryd.pinned (OpenSpec.ofChange fnExactPictureAlongWrong)

/-- 'laws.FnExactPictureFromRuns': WHATEVER THE INPUT: true; the input reads as it did. -/
def fnExactPictureFromRunsSpec : ChangeSpec := { name := "fnExactPictureFromRuns", vars := ["loop.example/g01165/impl.errNoResult", "loop.example/g01165/impl.quarterVisits"], fn := fun _ => fun
  | [d1, d2, d3, g1, g2] => { results := [.lit (.bool true)], args := [d1, d2, d3], vars := [g1, g2] }
  | _ => none }
def fnExactPictureFromRunsRow : OpenClaim := { program := "ythblhibkbcmbaaadoor", sum := "8f0a6a1846697ed9ffc80fefa93cb8e13cd6ca9457358053e96688db80ae26d7", func := "loop.example/g01165/laws.FnExactPictureFromRuns", spec := "fnExactPictureFromRuns", unfollowed := true, recurses := true, named := ["loop.example/g01165/impl.errNoResult", "loop.example/g01165/impl.quarterVisits", "bytes.ErrTooLarge"], ifaces := true, apart := false, laid := [("bytes.ErrTooLarge", laid_bytes_ErrTooLarge), ("loop.example/g01165/impl.errNoResult", laid_loop_example_g01165_impl_errNoResult), ("loop.example/g01165/impl.quarterVisits", laid_loop_example_g01165_impl_quarterVisits)] }
def FnExactPictureFromRunsSaid : Prop := fnExactPictureFromRunsRow.holds Tryd.pinned (OpenSpec.ofChange fnExactPictureFromRunsSpec)

/-- ITS FALSE NEIGHBOUR: 'it returns false'. Refute it at one input. -/
def fnExactPictureFromRunsWrong : ChangeSpec := { name := "fnExactPictureFromRuns", vars := ["loop.example/g01165/impl.errNoResult", "loop.example/g01165/impl.quarterVisits"], fn := fun _ => fun
  | [d1, d2, d3, g1, g2] => { results := [.lit (.bool false)], args := [d1, d2, d3], vars := [g1, g2] }
  | _ => none }
def FnExactPictureFromRunsWrongFalsely : Prop := fnExactPictureFromRunsRow.holds Tryd.pinned (OpenSpec.ofChange fnExactPictureFromRunsWrong)

/-- 'laws.FnAlong': WHATEVER THE INPUT: true; the input reads as it did. -/
def fnAlongSpec : ChangeSpec := { name := "fnAlong", vars := ["loop.example/g01165/impl.errRowLength", "loop.example/g01165/impl.errNoResult", "loop.example/g01165/impl.quarterVisits"], fn := fun _ => fun
  | [d1, d2, g1, g2, g3] => { results := [.lit (.bool true)], args := [d1, d2], vars := [g1, g2, g3] }
  | _ => none }
def fnAlongRow : OpenClaim := { program := "ythblhibkbcmbaaadoor", sum := "8f0a6a1846697ed9ffc80fefa93cb8e13cd6ca9457358053e96688db80ae26d7", func := "loop.example/g01165/laws.FnAlong", spec := "fnAlong", unfollowed := true, recurses := true, named := ["loop.example/g01165/impl.errRowLength", "loop.example/g01165/impl.errNoResult", "math/bits.deBruijn64tab", "loop.example/g01165/impl.quarterVisits", "bytes.ErrTooLarge"], ifaces := true, apart := false, laid := [("math/bits.deBruijn64tab", laid_math_bits_deBruijn64tab), ("bytes.ErrTooLarge", laid_bytes_ErrTooLarge), ("loop.example/g01165/impl.errRowLength", laid_loop_example_g01165_impl_errRowLength), ("loop.example/g01165/impl.errNoResult", laid_loop_example_g01165_impl_errNoResult), ("loop.example/g01165/impl.quarterVisits", laid_loop_example_g01165_impl_quarterVisits)] }
def FnAlongSaid : Prop := fnAlongRow.holds Tryd.pinned (OpenSpec.ofChange fnAlongSpec)

/-- ITS FALSE NEIGHBOUR: 'it returns false'. Refute it at one input. -/
def fnAlongWrong : ChangeSpec := { name := "fnAlong", vars := ["loop.example/g01165/impl.errRowLength", "loop.example/g01165/impl.errNoResult", "loop.example/g01165/impl.quarterVisits"], fn := fun _ => fun
  | [d1, d2, g1, g2, g3] => { results := [.lit (.bool false)], args := [d1, d2], vars := [g1, g2, g3] }
  | _ => none }
def FnAlongWrongFalsely : Prop := fnAlongRow.holds Tryd.pinned (OpenSpec.ofChange fnAlongWrong)

/- THE SECOND FORM. 'bulk': how many values and letters a reading holds, each counted each time it is reached (what is shared counts as often as it is met; a slice's spare places count too). A statement '..UptoSaid' is the law's where the arguments, and the package variables that the reading takes, are together of bulk at most 1048576: NARROWER than '..Said'. Prove '..Said' where nothing that the law and all that it calls make is longer than what came in: it says more and counts as full. Else prove '..UptoSaid'. A law counts once. -/
mutual
def uptoBulk {H : Type} : DataW H → Nat
  | .lit (.string bytes) => bytes.length + 1
  | .lit _ => 1
  | .nil => 1
  | .ptr d => uptoBulk d + 1
  | .slice elems spare => uptoBulkAll elems + uptoBulkAll spare + 1
  | .agg parts => uptoBulkAll parts + 1
  | .iface _ d => uptoBulk d + 1
  | .map entries => uptoBulkEntries entries + 1
  | .held _ => 1
def uptoBulkAll {H : Type} : List (DataW H) → Nat
  | [] => 0
  | d :: r => uptoBulk d + uptoBulkAll r
def uptoBulkEntries {H : Type} : List (Lit × DataW H) → Nat
  | [] => 0
  | x :: r => uptoBulkEntry x + uptoBulkEntries r
def uptoBulkEntry {H : Type} : Lit × DataW H → Nat
  | (.string bytes, d) => bytes.length + uptoBulk d + 1
  | (_, d) => uptoBulk d + 1
 end
def uptoSmall : (H : Type) → List (DataW H) → Bool := fun _ ds => decide (uptoBulkAll ds ≤ 1048576)
def OpenSpec.upto (s : _root_.Go.ChangeSpec) : _root_.Go.OpenSpec := { _root_.Go.OpenSpec.ofChange s with cond := some uptoSmall }

/-- 'laws.FnExactPictureAlong', WHERE WHAT IT READS IS OF BULK AT MOST 1048576: true; the input reads as it did. -/
def fnExactPictureAlongUptoRow : OpenClaim := { program := "ythblhibkbcmbaaadoor", sum := "8f0a6a1846697ed9ffc80fefa93cb8e13cd6ca9457358053e96688db80ae26d7", func := "loop.example/g01165/laws.FnExactPictureAlong", spec := "fnExactPictureAlong", unfollowed := true, recurses := true, named := ["loop.example/g01165/impl.errRowLength", "loop.example/g01165/impl.errNoResult", "math/bits.deBruijn64tab", "loop.example/g01165/impl.quarterVisits"], ifaces := true, apart := false, laid := [("math/bits.deBruijn64tab", laid_math_bits_deBruijn64tab), ("loop.example/g01165/impl.errRowLength", laid_loop_example_g01165_impl_errRowLength), ("loop.example/g01165/impl.errNoResult", laid_loop_example_g01165_impl_errNoResult), ("loop.example/g01165/impl.quarterVisits", laid_loop_example_g01165_impl_quarterVisits)], narrowed := true }
def FnExactPictureAlongUptoSaid : Prop := fnExactPictureAlongUptoRow.holds Tryd.pinned (OpenSpec.upto fnExactPictureAlongSpec)

/-- 'laws.FnExactPictureFromRuns', WHERE WHAT IT READS IS OF BULK AT MOST 1048576: true; the input reads as it did. -/
def fnExactPictureFromRunsUptoRow : OpenClaim := { program := "ythblhibkbcmbaaadoor", sum := "8f0a6a1846697ed9ffc80fefa93cb8e13cd6ca9457358053e96688db80ae26d7", func := "loop.example/g01165/laws.FnExactPictureFromRuns", spec := "fnExactPictureFromRuns", unfollowed := true, recurses := true, named := ["loop.example/g01165/impl.errNoResult", "loop.example/g01165/impl.quarterVisits", "bytes.ErrTooLarge"], ifaces := true, apart := false, laid := [("bytes.ErrTooLarge", laid_bytes_ErrTooLarge), ("loop.example/g01165/impl.errNoResult", laid_loop_example_g01165_impl_errNoResult), ("loop.example/g01165/impl.quarterVisits", laid_loop_example_g01165_impl_quarterVisits)], narrowed := true }
def FnExactPictureFromRunsUptoSaid : Prop := fnExactPictureFromRunsUptoRow.holds Tryd.pinned (OpenSpec.upto fnExactPictureFromRunsSpec)

/-- 'laws.FnAlong', WHERE WHAT IT READS IS OF BULK AT MOST 1048576: true; the input reads as it did. -/
def fnAlongUptoRow : OpenClaim := { program := "ythblhibkbcmbaaadoor", sum := "8f0a6a1846697ed9ffc80fefa93cb8e13cd6ca9457358053e96688db80ae26d7", func := "loop.example/g01165/laws.FnAlong", spec := "fnAlong", unfollowed := true, recurses := true, named := ["loop.example/g01165/impl.errRowLength", "loop.example/g01165/impl.errNoResult", "math/bits.deBruijn64tab", "loop.example/g01165/impl.quarterVisits", "bytes.ErrTooLarge"], ifaces := true, apart := false, laid := [("math/bits.deBruijn64tab", laid_math_bits_deBruijn64tab), ("bytes.ErrTooLarge", laid_bytes_ErrTooLarge), ("loop.example/g01165/impl.errRowLength", laid_loop_example_g01165_impl_errRowLength), ("loop.example/g01165/impl.errNoResult", laid_loop_example_g01165_impl_errNoResult), ("loop.example/g01165/impl.quarterVisits", laid_loop_example_g01165_impl_quarterVisits)], narrowed := true }
def FnAlongUptoSaid : Prop := fnAlongUptoRow.holds Tryd.pinned (OpenSpec.upto fnAlongSpec)

end Rows
end Go.Proofs.YthblhibkbcmbaaaDoor
