/-
  No cell of these rows narrows 'for every input' (looked for: loops, veiled, ifaces, maps, wideKeys, modest, calm, conditions, laid).
  DERIVED. THE GIVEN ROWS OF THIS SEAT. 3 by the template 'for every input the law returns true; each argument reads behind the call as it read before'; 0 by the template 'total and deterministic' (their statements: YtaopdhncapoefaaTotals.lean).
  GIVEN WITH THE SEED: the statements are not yours to turn. If you find one false, say at which input.
  Laid BY PROGRAM, IN A SANDBOX (cutbox-rows.mjs): the forced cells as the released guide's own fill.sh prints them over the translation f69d673c2f14b541… (all of the seat's roots in one cut). By AI agents, Wed Nov 11 2026. No macro, syntax, notation, axiom, sorry.
-/
import Derived.Test.YtaopdhncapoefaaChecked
import GoSem.Claim
import GoSem.ClaimJoined
import GoSem.ClaimMapViews
import Derived.JoinedTies
import Derived.KernelRfl
namespace Go.Proofs.Ytaopdhncapoefaa
/- THE CELL 'sum', in the pinned program and in every row, IS THE sha256 OF THE DUMP (.gsa) THAT YtaopdhncapoefaaProg.lean LOADS. Nothing in Lean hashes anything: it is a label: what it is worth is what the hold of that sum in a sandbox is worth. -/
noncomputable def Try.pinned : Pinned := { name := "ytaopdhncapoefaa", sum := "f69d673c2f14b54118885262506eee33ac0b76d24ea5753fa74529f7adfde21e", checked := Try.checked }
namespace Rows
def none {H : Type} : Left H := { results := [], args := [] }

/-- 'laws.FnExactSumElements': WHATEVER THE INPUT: true; the input reads as it did. -/
def fnExactSumElementsSpec : ChangeSpec := { name := "fnExactSumElements", fn := fun _ => fun
  | [d1, d2] => { results := [.lit (.bool true)], args := [d1, d2] }
  | _ => none }
def fnExactSumElementsRow : OpenClaim := { program := "ytaopdhncapoefaa", sum := "f69d673c2f14b54118885262506eee33ac0b76d24ea5753fa74529f7adfde21e", func := "loop.example/g01165/laws.FnExactSumElements", spec := "fnExactSumElements", unfollowed := true, recurses := true, plainKeys := false, apart := false }
def FnExactSumElementsSaid : Prop := fnExactSumElementsRow.holds Try.pinned (OpenSpec.ofChange fnExactSumElementsSpec)

/-- ITS FALSE NEIGHBOUR: 'it returns false'. Refute it at one input. -/
def fnExactSumElementsWrong : ChangeSpec := { name := "fnExactSumElements", fn := fun _ => fun
  | [d1, d2] => { results := [.lit (.bool false)], args := [d1, d2] }
  | _ => none }
def FnExactSumElementsWrongFalsely : Prop := fnExactSumElementsRow.holds Try.pinned (OpenSpec.ofChange fnExactSumElementsWrong)

/-- 'laws.FnExactFactorElement': WHATEVER THE INPUT: true; the input reads as it did. -/
def fnExactFactorElementSpec : ChangeSpec := { name := "fnExactFactorElement", fn := fun _ => fun
  | [d] => { results := [.lit (.bool true)], args := [d] }
  | _ => none }
def fnExactFactorElementRow : OpenClaim := { program := "ytaopdhncapoefaa", sum := "f69d673c2f14b54118885262506eee33ac0b76d24ea5753fa74529f7adfde21e", func := "loop.example/g01165/laws.FnExactFactorElement", spec := "fnExactFactorElement", unfollowed := true, recurses := true, plainKeys := false, apart := false }
def FnExactFactorElementSaid : Prop := fnExactFactorElementRow.holds Try.pinned (OpenSpec.ofChange fnExactFactorElementSpec)

/-- ITS FALSE NEIGHBOUR: 'it returns false'. Refute it at one input. -/
def fnExactFactorElementWrong : ChangeSpec := { name := "fnExactFactorElement", fn := fun _ => fun
  | [d] => { results := [.lit (.bool false)], args := [d] }
  | _ => none }
def FnExactFactorElementWrongFalsely : Prop := fnExactFactorElementRow.holds Try.pinned (OpenSpec.ofChange fnExactFactorElementWrong)

/-- 'laws.FnExactBlackArea': WHATEVER THE INPUT: true; the input reads as it did. -/
def fnExactBlackAreaSpec : ChangeSpec := { name := "fnExactBlackArea", fn := fun _ => fun
  | [d] => { results := [.lit (.bool true)], args := [d] }
  | _ => none }
def fnExactBlackAreaRow : OpenClaim := { program := "ytaopdhncapoefaa", sum := "f69d673c2f14b54118885262506eee33ac0b76d24ea5753fa74529f7adfde21e", func := "loop.example/g01165/laws.FnExactBlackArea", spec := "fnExactBlackArea", inPlace := ["internal/abi.NoEscape"], unfollowed := true, recurses := true, plainKeys := false, apart := false }
def FnExactBlackAreaSaid : Prop := fnExactBlackAreaRow.holds Try.pinned (OpenSpec.ofChange fnExactBlackAreaSpec)

/-- ITS FALSE NEIGHBOUR: 'it returns false'. Refute it at one input. -/
def fnExactBlackAreaWrong : ChangeSpec := { name := "fnExactBlackArea", fn := fun _ => fun
  | [d] => { results := [.lit (.bool false)], args := [d] }
  | _ => none }
def FnExactBlackAreaWrongFalsely : Prop := fnExactBlackAreaRow.holds Try.pinned (OpenSpec.ofChange fnExactBlackAreaWrong)

/- THE SECOND FORM. 'bulk': how many values and letters a reading holds, each counted each time it is reached (what is shared counts as often as it is met; a slice's spare places count too). A statement '..UptoSaid' is the law's where the arguments, and the package variables that the reading takes, are together of bulk at most 1048576: NARROWER than '..Said'. Prove '..Said' where nothing that the law and all that it calls make is longer than what came in: it says more and counts as full. Else prove '..UptoSaid'. A law counts once. -/
mutual
def uptoBulk {H : Type} : DataW H → Nat
  | .lit (.string bytes) => bytes.length + 1
  | .lit _ => 1
  | .nil => 1
  | .ptr d => uptoBulk d + 1
  | .slice elems spare => uptoBulkAll elems + uptoBulkAll spare + 1
  | .agg parts => uptoBulkAll parts + 1
  | .iface _ d => uptoBulk d + 1
  | .map entries => uptoBulkEntries entries + 1
  | .held _ => 1
def uptoBulkAll {H : Type} : List (DataW H) → Nat
  | [] => 0
  | d :: r => uptoBulk d + uptoBulkAll r
def uptoBulkEntries {H : Type} : List (Lit × DataW H) → Nat
  | [] => 0
  | x :: r => uptoBulkEntry x + uptoBulkEntries r
def uptoBulkEntry {H : Type} : Lit × DataW H → Nat
  | (.string bytes, d) => bytes.length + uptoBulk d + 1
  | (_, d) => uptoBulk d + 1
 end
def uptoSmall : (H : Type) → List (DataW H) → Bool := fun _ ds => decide (uptoBulkAll ds ≤ 1048576)
def OpenSpec.upto (s : _root_.Go.ChangeSpec) : _root_.Go.OpenSpec := { _root_.Go.OpenSpec.ofChange s with cond := some uptoSmall }

/-- 'laws.FnExactSumElements', WHERE WHAT IT READS IS OF BULK AT MOST 1048576: true; the input reads as it did. -/
def fnExactSumElementsUptoRow : OpenClaim := { program := "ytaopdhncapoefaa", sum := "f69d673c2f14b54118885262506eee33ac0b76d24ea5753fa74529f7adfde21e", func := "loop.example/g01165/laws.FnExactSumElements", spec := "fnExactSumElements", unfollowed := true, recurses := true, plainKeys := false, apart := false, narrowed := true }
def FnExactSumElementsUptoSaid : Prop := fnExactSumElementsUptoRow.holds Try.pinned (OpenSpec.upto fnExactSumElementsSpec)

/-- 'laws.FnExactFactorElement', WHERE WHAT IT READS IS OF BULK AT MOST 1048576: true; the input reads as it did. -/
def fnExactFactorElementUptoRow : OpenClaim := { program := "ytaopdhncapoefaa", sum := "f69d673c2f14b54118885262506eee33ac0b76d24ea5753fa74529f7adfde21e", func := "loop.example/g01165/laws.FnExactFactorElement", spec := "fnExactFactorElement", unfollowed := true, recurses := true, plainKeys := false, apart := false, narrowed := true }
def FnExactFactorElementUptoSaid : Prop := fnExactFactorElementUptoRow.holds Try.pinned (OpenSpec.upto fnExactFactorElementSpec)

/-- 'laws.FnExactBlackArea', WHERE WHAT IT READS IS OF BULK AT MOST 1048576: true; the input reads as it did. -/
def fnExactBlackAreaUptoRow : OpenClaim := { program := "ytaopdhncapoefaa", sum := "f69d673c2f14b54118885262506eee33ac0b76d24ea5753fa74529f7adfde21e", func := "loop.example/g01165/laws.FnExactBlackArea", spec := "fnExactBlackArea", inPlace := ["internal/abi.NoEscape"], unfollowed := true, recurses := true, plainKeys := false, apart := false, narrowed := true }
def FnExactBlackAreaUptoSaid : Prop := fnExactBlackAreaUptoRow.holds Try.pinned (OpenSpec.upto fnExactBlackAreaSpec)

end Rows
end Go.Proofs.Ytaopdhncapoefaa
