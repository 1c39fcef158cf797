/-
  DERIVED. GIVEN WITH THE SEED: THE CARDS: each row of YthblhibkbcmbaaaDoorRows.lean that lists a variable, with what it lists TIED to the program's text (the seventh form; the later family's looks); each row that meets fmt, with fmt's text TOLD by the authors' own Lean function (tested against real Go, not proved from fmt's source: count such statements apart). THE CARD IS WHAT COUNTS. Prove the row's statement (the work); the ties are given (YthblhibkbcmbaaaDoorTie.lean); close each card by the builder's one call (the guide's Derived/Test/ToyasCard.lean, 'card_holds'). Laid BY PROGRAM, IN A SANDBOX (cutbox-door.mjs). By AI agents, Wed Nov 11 2026. No macro, syntax, notation, axiom, sorry.
-/
import Derived.Test.YthblhibkbcmbaaaDoorRows
import GoSem.ClaimSeven
namespace Go.Proofs.YthblhibkbcmbaaaDoor
namespace Rows

/-- THE TIED CARD OF 'laws.FnExactPictureAlong'. -/
def fnExactPictureAlongCard : Claim7 := { stood := { row := fnExactPictureAlongRow, standIns := [], harness := (true, "74fa4f83915e3ae65271496af87ad7978ffa3b9828149054a890effea39a39c3"), looks := false }, kinds := [], alts := [], laidByText := true, laidKinds := [.data, .sentinel, .sentinel, .data], laidTests := true, laidLooks := .later }
def FnExactPictureAlongCardSaid : Prop := Claim7.holds Tryd.pinned (.plain (OpenSpec.ofChange fnExactPictureAlongSpec)) fnExactPictureAlongCard

/-- THE TIED CARD OF 'laws.FnExactPictureFromRuns'. -/
def fnExactPictureFromRunsCard : Claim7 := { stood := { row := fnExactPictureFromRunsRow, standIns := [], harness := (true, "74fa4f83915e3ae65271496af87ad7978ffa3b9828149054a890effea39a39c3"), looks := false }, kinds := [], alts := [], laidByText := true, laidKinds := [.sentinel, .sentinel, .data], laidTests := true, laidLooks := .later }
def FnExactPictureFromRunsCardSaid : Prop := Claim7.holds Tryd.pinned (.plain (OpenSpec.ofChange fnExactPictureFromRunsSpec)) fnExactPictureFromRunsCard

/-- THE TIED CARD OF 'laws.FnAlong'. -/
def fnAlongCard : Claim7 := { stood := { row := fnAlongRow, standIns := [], harness := (true, "74fa4f83915e3ae65271496af87ad7978ffa3b9828149054a890effea39a39c3"), looks := false }, kinds := [], alts := [], laidByText := true, laidKinds := [.data, .sentinel, .sentinel, .sentinel, .data], laidTests := true, laidLooks := .later }
def FnAlongCardSaid : Prop := Claim7.holds Tryd.pinned (.plain (OpenSpec.ofChange fnAlongSpec)) fnAlongCard

/-- THE SECOND FORM's CARD OF 'laws.FnExactPictureAlong'. -/
def fnExactPictureAlongUptoCard : Claim7 := { stood := { row := fnExactPictureAlongUptoRow, standIns := [], harness := (true, "74fa4f83915e3ae65271496af87ad7978ffa3b9828149054a890effea39a39c3"), looks := false }, kinds := [], alts := [], laidByText := true, laidKinds := [.data, .sentinel, .sentinel, .data], laidTests := true, laidLooks := .later }
def FnExactPictureAlongUptoCardSaid : Prop := Claim7.holds Tryd.pinned (.plain (OpenSpec.upto fnExactPictureAlongSpec)) fnExactPictureAlongUptoCard

/-- THE SECOND FORM's CARD OF 'laws.FnExactPictureFromRuns'. -/
def fnExactPictureFromRunsUptoCard : Claim7 := { stood := { row := fnExactPictureFromRunsUptoRow, standIns := [], harness := (true, "74fa4f83915e3ae65271496af87ad7978ffa3b9828149054a890effea39a39c3"), looks := false }, kinds := [], alts := [], laidByText := true, laidKinds := [.sentinel, .sentinel, .data], laidTests := true, laidLooks := .later }
def FnExactPictureFromRunsUptoCardSaid : Prop := Claim7.holds Tryd.pinned (.plain (OpenSpec.upto fnExactPictureFromRunsSpec)) fnExactPictureFromRunsUptoCard

/-- THE SECOND FORM's CARD OF 'laws.FnAlong'. -/
def fnAlongUptoCard : Claim7 := { stood := { row := fnAlongUptoRow, standIns := [], harness := (true, "74fa4f83915e3ae65271496af87ad7978ffa3b9828149054a890effea39a39c3"), looks := false }, kinds := [], alts := [], laidByText := true, laidKinds := [.data, .sentinel, .sentinel, .sentinel, .data], laidTests := true, laidLooks := .later }
def FnAlongUptoCardSaid : Prop := Claim7.holds Tryd.pinned (.plain (OpenSpec.upto fnAlongSpec)) fnAlongUptoCard
end Rows
end Go.Proofs.YthblhibkbcmbaaaDoor
