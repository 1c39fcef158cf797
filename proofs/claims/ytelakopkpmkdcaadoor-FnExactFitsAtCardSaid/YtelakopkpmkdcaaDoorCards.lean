/-
  DERIVED. GIVEN WITH THE SEED: THE CARDS: each row of YtelakopkpmkdcaaDoorRows.lean that lists a variable, with what it lists TIED to the program's text (the seventh form; the later family's looks); each row that meets fmt, with fmt's text TOLD by the authors' own Lean function (tested against real Go, not proved from fmt's source: count such statements apart). THE CARD IS WHAT COUNTS. Prove the row's statement (the work); the ties are given (YtelakopkpmkdcaaDoorTie.lean); close each card by the builder's one call (the guide's Derived/Test/ToyasCard.lean, 'card_holds'). Laid BY PROGRAM, IN A SANDBOX (cutbox-door.mjs). By AI agents, Wed Nov 11 2026. No macro, syntax, notation, axiom, sorry.
-/
import Derived.Test.YtelakopkpmkdcaaDoorRows
import GoSem.ClaimSeven
namespace Go.Proofs.YtelakopkpmkdcaaDoor
namespace Rows

/-- THE TIED CARD OF 'laws.FnExactFitsAt'. -/
def fnExactFitsAtCard : Claim7 := { stood := { row := fnExactFitsAtRow, standIns := [], harness := (true, "525f9610cce0b8bec02a101b20d03657237ca0463749ab18ca76bfd0f739f951"), looks := false }, kinds := [], alts := [], laidByText := true, laidKinds := [.sentinel], laidTests := true, laidLooks := .later }
def FnExactFitsAtCardSaid : Prop := Claim7.holds Tryd.pinned (.plain (OpenSpec.ofChange fnExactFitsAtSpec)) fnExactFitsAtCard

/-- THE SECOND FORM's CARD OF 'laws.FnExactFitsAt'. -/
def fnExactFitsAtUptoCard : Claim7 := { stood := { row := fnExactFitsAtUptoRow, standIns := [], harness := (true, "525f9610cce0b8bec02a101b20d03657237ca0463749ab18ca76bfd0f739f951"), looks := false }, kinds := [], alts := [], laidByText := true, laidKinds := [.sentinel], laidTests := true, laidLooks := .later }
def FnExactFitsAtUptoCardSaid : Prop := Claim7.holds Tryd.pinned (.plain (OpenSpec.upto fnExactFitsAtSpec)) fnExactFitsAtUptoCard
end Rows
end Go.Proofs.YtelakopkpmkdcaaDoor
