/-
  NARROWER THAN 'FOR EVERY INPUT', by the rows' own cells (each row's printed sentence says how): FnExactIsInside: ifaces, laid · FnExactSpotsOf: ifaces, laid.
  DERIVED. THE GIVEN ROWS OF THIS SEAT. 2 by the template 'for every input the law returns true; each argument reads behind the call as it read before'; 0 by the template 'total and deterministic' (their statements: YthoffbibaimjlaaDoorTotals.lean).
  GIVEN WITH THE SEED: the statements are not yours to turn. If you find one false, say at which input.
  Laid BY PROGRAM, IN A SANDBOX (cutbox-rows.mjs): the forced cells as the released guide's own fill.sh prints them over the translation d64b382a4034abe7… (all of the seat's roots in one cut). By AI agents, Wed Nov 11 2026. No macro, syntax, notation, axiom, sorry.
-/
import Derived.Test.YthoffbibaimjlaaDoorChecked
import GoSem.Claim
import GoSem.ClaimJoined
import GoSem.ClaimMapViews
import Derived.JoinedTies
import Derived.KernelRfl
namespace Go.Proofs.YthoffbibaimjlaaDoor
/- THE CELL 'sum', in the pinned program and in every row, IS THE sha256 OF THE DUMP (.gsa) THAT YthoffbibaimjlaaDoorProg.lean LOADS. Nothing in Lean hashes anything: it is a label: what it is worth is what the hold of that sum in a sandbox is worth. -/
noncomputable def Tryd.pinned : Pinned := { name := "ythoffbibaimjlaadoor", sum := "d64b382a4034abe74d876f7a030b140bc7f99c191c4443d4073e014685b854b6", checked := Tryd.checked }
namespace Rows
def none {H : Type} : Left H := { results := [], args := [] }

/- WHAT THE LISTED PACKAGE-LEVEL VARIABLES READ AS WHEN THE CALL BEGINS. Each datum BY PROGRAM (the guide's laid-datum.mjs) off the statement by which the dump's own 'gosem.cut.vars' lays the variable. In a bare row this is a premise. The card (YthoffbibaimjlaaDoorCards.lean) ties it to the program's text. -/
def laid_loop_example_g01165_impl_errRowLength {H : Type} : DataW H := .iface "*errors.errorString" (.ptr (.agg [.lit (.string [97, 32, 114, 111, 119, 32, 104, 97, 115, 32, 110, 111, 32, 112, 105, 120, 101, 108, 115, 44, 32, 111, 114, 32, 116, 111, 111, 32, 109, 97, 110, 121])]))

/-- 'laws.FnExactIsInside': WHATEVER THE INPUT: true; the input reads as it did. -/
def fnExactIsInsideSpec : ChangeSpec := { name := "fnExactIsInside", vars := ["loop.example/g01165/impl.errRowLength"], fn := fun _ => fun
  | [d1, d2, g1] => { results := [.lit (.bool true)], args := [d1, d2], vars := [g1] }
  | _ => none }
def fnExactIsInsideRow : OpenClaim := { program := "ythoffbibaimjlaadoor", sum := "d64b382a4034abe74d876f7a030b140bc7f99c191c4443d4073e014685b854b6", func := "loop.example/g01165/laws.FnExactIsInside", spec := "fnExactIsInside", named := ["loop.example/g01165/impl.errRowLength"], ifaces := true, apart := false, laid := [("loop.example/g01165/impl.errRowLength", laid_loop_example_g01165_impl_errRowLength)] }
def FnExactIsInsideSaid : Prop := fnExactIsInsideRow.holds Tryd.pinned (OpenSpec.ofChange fnExactIsInsideSpec)

/-- ITS FALSE NEIGHBOUR: 'it returns false'. Refute it at one input. -/
def fnExactIsInsideWrong : ChangeSpec := { name := "fnExactIsInside", vars := ["loop.example/g01165/impl.errRowLength"], fn := fun _ => fun
  | [d1, d2, g1] => { results := [.lit (.bool false)], args := [d1, d2], vars := [g1] }
  | _ => none }
def FnExactIsInsideWrongFalsely : Prop := fnExactIsInsideRow.holds Tryd.pinned (OpenSpec.ofChange fnExactIsInsideWrong)

/-- 'laws.FnExactSpotsOf': WHATEVER THE INPUT: true; the input reads as it did. -/
def fnExactSpotsOfSpec : ChangeSpec := { name := "fnExactSpotsOf", vars := ["loop.example/g01165/impl.errRowLength"], fn := fun _ => fun
  | [d, g1] => { results := [.lit (.bool true)], args := [d], vars := [g1] }
  | _ => none }
def fnExactSpotsOfRow : OpenClaim := { program := "ythoffbibaimjlaadoor", sum := "d64b382a4034abe74d876f7a030b140bc7f99c191c4443d4073e014685b854b6", func := "loop.example/g01165/laws.FnExactSpotsOf", spec := "fnExactSpotsOf", named := ["loop.example/g01165/impl.errRowLength"], ifaces := true, apart := false, laid := [("loop.example/g01165/impl.errRowLength", laid_loop_example_g01165_impl_errRowLength)] }
def FnExactSpotsOfSaid : Prop := fnExactSpotsOfRow.holds Tryd.pinned (OpenSpec.ofChange fnExactSpotsOfSpec)

/-- ITS FALSE NEIGHBOUR: 'it returns false'. Refute it at one input. -/
def fnExactSpotsOfWrong : ChangeSpec := { name := "fnExactSpotsOf", vars := ["loop.example/g01165/impl.errRowLength"], fn := fun _ => fun
  | [d, g1] => { results := [.lit (.bool false)], args := [d], vars := [g1] }
  | _ => none }
def FnExactSpotsOfWrongFalsely : Prop := fnExactSpotsOfRow.holds Tryd.pinned (OpenSpec.ofChange fnExactSpotsOfWrong)

/- THE SECOND FORM. 'bulk': how many values and letters a reading holds, each counted each time it is reached (what is shared counts as often as it is met; a slice's spare places count too). A statement '..UptoSaid' is the law's where the arguments, and the package variables that the reading takes, are together of bulk at most 1048576: NARROWER than '..Said'. Prove '..Said' where nothing that the law and all that it calls make is longer than what came in: it says more and counts as full. Else prove '..UptoSaid'. A law counts once. -/
mutual
def uptoBulk {H : Type} : DataW H → Nat
  | .lit (.string bytes) => bytes.length + 1
  | .lit _ => 1
  | .nil => 1
  | .ptr d => uptoBulk d + 1
  | .slice elems spare => uptoBulkAll elems + uptoBulkAll spare + 1
  | .agg parts => uptoBulkAll parts + 1
  | .iface _ d => uptoBulk d + 1
  | .map entries => uptoBulkEntries entries + 1
  | .held _ => 1
def uptoBulkAll {H : Type} : List (DataW H) → Nat
  | [] => 0
  | d :: r => uptoBulk d + uptoBulkAll r
def uptoBulkEntries {H : Type} : List (Lit × DataW H) → Nat
  | [] => 0
  | x :: r => uptoBulkEntry x + uptoBulkEntries r
def uptoBulkEntry {H : Type} : Lit × DataW H → Nat
  | (.string bytes, d) => bytes.length + uptoBulk d + 1
  | (_, d) => uptoBulk d + 1
 end
def uptoSmall : (H : Type) → List (DataW H) → Bool := fun _ ds => decide (uptoBulkAll ds ≤ 1048576)
def OpenSpec.upto (s : _root_.Go.ChangeSpec) : _root_.Go.OpenSpec := { _root_.Go.OpenSpec.ofChange s with cond := some uptoSmall }

/-- 'laws.FnExactIsInside', WHERE WHAT IT READS IS OF BULK AT MOST 1048576: true; the input reads as it did. -/
def fnExactIsInsideUptoRow : OpenClaim := { program := "ythoffbibaimjlaadoor", sum := "d64b382a4034abe74d876f7a030b140bc7f99c191c4443d4073e014685b854b6", func := "loop.example/g01165/laws.FnExactIsInside", spec := "fnExactIsInside", named := ["loop.example/g01165/impl.errRowLength"], ifaces := true, apart := false, laid := [("loop.example/g01165/impl.errRowLength", laid_loop_example_g01165_impl_errRowLength)], narrowed := true }
def FnExactIsInsideUptoSaid : Prop := fnExactIsInsideUptoRow.holds Tryd.pinned (OpenSpec.upto fnExactIsInsideSpec)

/-- 'laws.FnExactSpotsOf', WHERE WHAT IT READS IS OF BULK AT MOST 1048576: true; the input reads as it did. -/
def fnExactSpotsOfUptoRow : OpenClaim := { program := "ythoffbibaimjlaadoor", sum := "d64b382a4034abe74d876f7a030b140bc7f99c191c4443d4073e014685b854b6", func := "loop.example/g01165/laws.FnExactSpotsOf", spec := "fnExactSpotsOf", named := ["loop.example/g01165/impl.errRowLength"], ifaces := true, apart := false, laid := [("loop.example/g01165/impl.errRowLength", laid_loop_example_g01165_impl_errRowLength)], narrowed := true }
def FnExactSpotsOfUptoSaid : Prop := fnExactSpotsOfUptoRow.holds Tryd.pinned (OpenSpec.upto fnExactSpotsOfSpec)

end Rows
end Go.Proofs.YthoffbibaimjlaaDoor
