/-
  DERIVED. GIVEN WITH THE SEED: THE CARDS: each row of YthoffbibaimjlaaDoorRows.lean that lists a variable, with what it lists TIED to the program's text (the seventh form; the later family's looks); each row that meets fmt, with fmt's text TOLD by the authors' own Lean function (tested against real Go, not proved from fmt's source: count such statements apart). THE CARD IS WHAT COUNTS. Prove the row's statement (the work); the ties are given (YthoffbibaimjlaaDoorTie.lean); close each card by the builder's one call (the guide's Derived/Test/ToyasCard.lean, 'card_holds'). Laid BY PROGRAM, IN A SANDBOX (cutbox-door.mjs). By AI agents, Wed Nov 11 2026. No macro, syntax, notation, axiom, sorry.
-/
import Derived.Test.YthoffbibaimjlaaDoorRows
import GoSem.ClaimSeven
namespace Go.Proofs.YthoffbibaimjlaaDoor
namespace Rows

/-- THE TIED CARD OF 'laws.FnExactIsInside'. -/
def fnExactIsInsideCard : Claim7 := { stood := { row := fnExactIsInsideRow, standIns := [], harness := (true, "45041301cd4eaa09fa46defb515733d2e86d7a6f405693171a1cdba8730219dc"), looks := false }, kinds := [], alts := [], laidByText := true, laidKinds := [.sentinel], laidTests := true, laidLooks := .later }
def FnExactIsInsideCardSaid : Prop := Claim7.holds Tryd.pinned (.plain (OpenSpec.ofChange fnExactIsInsideSpec)) fnExactIsInsideCard

/-- THE TIED CARD OF 'laws.FnExactSpotsOf'. -/
def fnExactSpotsOfCard : Claim7 := { stood := { row := fnExactSpotsOfRow, standIns := [], harness := (true, "45041301cd4eaa09fa46defb515733d2e86d7a6f405693171a1cdba8730219dc"), looks := false }, kinds := [], alts := [], laidByText := true, laidKinds := [.sentinel], laidTests := true, laidLooks := .later }
def FnExactSpotsOfCardSaid : Prop := Claim7.holds Tryd.pinned (.plain (OpenSpec.ofChange fnExactSpotsOfSpec)) fnExactSpotsOfCard

/-- THE SECOND FORM's CARD OF 'laws.FnExactIsInside'. -/
def fnExactIsInsideUptoCard : Claim7 := { stood := { row := fnExactIsInsideUptoRow, standIns := [], harness := (true, "45041301cd4eaa09fa46defb515733d2e86d7a6f405693171a1cdba8730219dc"), looks := false }, kinds := [], alts := [], laidByText := true, laidKinds := [.sentinel], laidTests := true, laidLooks := .later }
def FnExactIsInsideUptoCardSaid : Prop := Claim7.holds Tryd.pinned (.plain (OpenSpec.upto fnExactIsInsideSpec)) fnExactIsInsideUptoCard

/-- THE SECOND FORM's CARD OF 'laws.FnExactSpotsOf'. -/
def fnExactSpotsOfUptoCard : Claim7 := { stood := { row := fnExactSpotsOfUptoRow, standIns := [], harness := (true, "45041301cd4eaa09fa46defb515733d2e86d7a6f405693171a1cdba8730219dc"), looks := false }, kinds := [], alts := [], laidByText := true, laidKinds := [.sentinel], laidTests := true, laidLooks := .later }
def FnExactSpotsOfUptoCardSaid : Prop := Claim7.holds Tryd.pinned (.plain (OpenSpec.upto fnExactSpotsOfSpec)) fnExactSpotsOfUptoCard
end Rows
end Go.Proofs.YthoffbibaimjlaaDoor
