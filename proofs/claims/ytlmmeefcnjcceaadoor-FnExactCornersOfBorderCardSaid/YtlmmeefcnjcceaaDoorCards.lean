/-
  DERIVED. GIVEN WITH THE SEED: THE CARDS: each row of YtlmmeefcnjcceaaDoorRows.lean that lists a variable, with what it lists TIED to the program's text (the seventh form; the later family's looks); each row that meets fmt, with fmt's text TOLD by the authors' own Lean function (tested against real Go, not proved from fmt's source: count such statements apart). THE CARD IS WHAT COUNTS. Prove the row's statement (the work); the ties are given (YtlmmeefcnjcceaaDoorTie.lean); close each card by the builder's one call (the guide's Derived/Test/ToyasCard.lean, 'card_holds'). Laid BY PROGRAM, IN A SANDBOX (cutbox-door.mjs). By AI agents, Wed Nov 11 2026. No macro, syntax, notation, axiom, sorry.
-/
import Derived.Test.YtlmmeefcnjcceaaDoorRows
import GoSem.ClaimSeven
namespace Go.Proofs.YtlmmeefcnjcceaaDoor
namespace Rows

/-- THE TIED CARD OF 'laws.FnExactIsBorder'. -/
def fnExactIsBorderCard : Claim7 := { stood := { row := fnExactIsBorderRow, standIns := [], harness := (true, "8d01d38fbc3f17000f9f661a43ee1f83a036b4a3434332c7a86d11ea8a23537c"), looks := false }, kinds := [], alts := [], laidByText := true, laidKinds := [.data], laidTests := true, laidLooks := .later }
def FnExactIsBorderCardSaid : Prop := Claim7.holds Tryd.pinned (.plain (OpenSpec.ofChange fnExactIsBorderSpec)) fnExactIsBorderCard

/-- THE TIED CARD OF 'laws.FnExactSignedArea'. -/
def fnExactSignedAreaCard : Claim7 := { stood := { row := fnExactSignedAreaRow, standIns := [], harness := (true, "8d01d38fbc3f17000f9f661a43ee1f83a036b4a3434332c7a86d11ea8a23537c"), looks := false }, kinds := [], alts := [], laidByText := true, laidKinds := [.data], laidTests := true, laidLooks := .later }
def FnExactSignedAreaCardSaid : Prop := Claim7.holds Tryd.pinned (.plain (OpenSpec.ofChange fnExactSignedAreaSpec)) fnExactSignedAreaCard

/-- THE TIED CARD OF 'laws.FnExactTurningOf'. -/
def fnExactTurningOfCard : Claim7 := { stood := { row := fnExactTurningOfRow, standIns := [], harness := (true, "8d01d38fbc3f17000f9f661a43ee1f83a036b4a3434332c7a86d11ea8a23537c"), looks := false }, kinds := [], alts := [], laidByText := true, laidKinds := [.data], laidTests := true, laidLooks := .later }
def FnExactTurningOfCardSaid : Prop := Claim7.holds Tryd.pinned (.plain (OpenSpec.ofChange fnExactTurningOfSpec)) fnExactTurningOfCard

/-- THE TIED CARD OF 'laws.FnExactCornersOfBorder'. -/
def fnExactCornersOfBorderCard : Claim7 := { stood := { row := fnExactCornersOfBorderRow, standIns := [], harness := (true, "8d01d38fbc3f17000f9f661a43ee1f83a036b4a3434332c7a86d11ea8a23537c"), looks := false }, kinds := [], alts := [], laidByText := true, laidKinds := [.data], laidTests := true, laidLooks := .later }
def FnExactCornersOfBorderCardSaid : Prop := Claim7.holds Tryd.pinned (.plain (OpenSpec.ofChange fnExactCornersOfBorderSpec)) fnExactCornersOfBorderCard

/-- THE TIED CARD OF 'laws.FnExactEdgeLength'. -/
def fnExactEdgeLengthCard : Claim7 := { stood := { row := fnExactEdgeLengthRow, standIns := [], harness := (true, "8d01d38fbc3f17000f9f661a43ee1f83a036b4a3434332c7a86d11ea8a23537c"), looks := false }, kinds := [], alts := [], laidByText := true, laidKinds := [.sentinel, .data], laidTests := true, laidLooks := .later }
def FnExactEdgeLengthCardSaid : Prop := Claim7.holds Tryd.pinned (.plain (OpenSpec.ofChange fnExactEdgeLengthSpec)) fnExactEdgeLengthCard

/-- THE TIED CARD OF 'laws.FnExactHullOfBorder'. -/
def fnExactHullOfBorderCard : Claim7 := { stood := { row := fnExactHullOfBorderRow, standIns := [], harness := (true, "8d01d38fbc3f17000f9f661a43ee1f83a036b4a3434332c7a86d11ea8a23537c"), looks := false }, kinds := [], alts := [], laidByText := true, laidKinds := [.data], laidTests := true, laidLooks := .later }
def FnExactHullOfBorderCardSaid : Prop := Claim7.holds Tryd.pinned (.plain (OpenSpec.ofChange fnExactHullOfBorderSpec)) fnExactHullOfBorderCard

/-- THE TIED CARD OF 'laws.FnExactBorderFrom'. -/
def fnExactBorderFromCard : Claim7 := { stood := { row := fnExactBorderFromRow, standIns := [], harness := (true, "8d01d38fbc3f17000f9f661a43ee1f83a036b4a3434332c7a86d11ea8a23537c"), looks := false }, kinds := [], alts := [], laidByText := true, laidKinds := [.data], laidTests := true, laidLooks := .later }
def FnExactBorderFromCardSaid : Prop := Claim7.holds Tryd.pinned (.plain (OpenSpec.ofChange fnExactBorderFromSpec)) fnExactBorderFromCard

/-- THE SECOND FORM's CARD OF 'laws.FnExactIsBorder'. -/
def fnExactIsBorderUptoCard : Claim7 := { stood := { row := fnExactIsBorderUptoRow, standIns := [], harness := (true, "8d01d38fbc3f17000f9f661a43ee1f83a036b4a3434332c7a86d11ea8a23537c"), looks := false }, kinds := [], alts := [], laidByText := true, laidKinds := [.data], laidTests := true, laidLooks := .later }
def FnExactIsBorderUptoCardSaid : Prop := Claim7.holds Tryd.pinned (.plain (OpenSpec.upto fnExactIsBorderSpec)) fnExactIsBorderUptoCard

/-- THE SECOND FORM's CARD OF 'laws.FnExactSignedArea'. -/
def fnExactSignedAreaUptoCard : Claim7 := { stood := { row := fnExactSignedAreaUptoRow, standIns := [], harness := (true, "8d01d38fbc3f17000f9f661a43ee1f83a036b4a3434332c7a86d11ea8a23537c"), looks := false }, kinds := [], alts := [], laidByText := true, laidKinds := [.data], laidTests := true, laidLooks := .later }
def FnExactSignedAreaUptoCardSaid : Prop := Claim7.holds Tryd.pinned (.plain (OpenSpec.upto fnExactSignedAreaSpec)) fnExactSignedAreaUptoCard

/-- THE SECOND FORM's CARD OF 'laws.FnExactTurningOf'. -/
def fnExactTurningOfUptoCard : Claim7 := { stood := { row := fnExactTurningOfUptoRow, standIns := [], harness := (true, "8d01d38fbc3f17000f9f661a43ee1f83a036b4a3434332c7a86d11ea8a23537c"), looks := false }, kinds := [], alts := [], laidByText := true, laidKinds := [.data], laidTests := true, laidLooks := .later }
def FnExactTurningOfUptoCardSaid : Prop := Claim7.holds Tryd.pinned (.plain (OpenSpec.upto fnExactTurningOfSpec)) fnExactTurningOfUptoCard

/-- THE SECOND FORM's CARD OF 'laws.FnExactCornersOfBorder'. -/
def fnExactCornersOfBorderUptoCard : Claim7 := { stood := { row := fnExactCornersOfBorderUptoRow, standIns := [], harness := (true, "8d01d38fbc3f17000f9f661a43ee1f83a036b4a3434332c7a86d11ea8a23537c"), looks := false }, kinds := [], alts := [], laidByText := true, laidKinds := [.data], laidTests := true, laidLooks := .later }
def FnExactCornersOfBorderUptoCardSaid : Prop := Claim7.holds Tryd.pinned (.plain (OpenSpec.upto fnExactCornersOfBorderSpec)) fnExactCornersOfBorderUptoCard

/-- THE SECOND FORM's CARD OF 'laws.FnExactEdgeLength'. -/
def fnExactEdgeLengthUptoCard : Claim7 := { stood := { row := fnExactEdgeLengthUptoRow, standIns := [], harness := (true, "8d01d38fbc3f17000f9f661a43ee1f83a036b4a3434332c7a86d11ea8a23537c"), looks := false }, kinds := [], alts := [], laidByText := true, laidKinds := [.sentinel, .data], laidTests := true, laidLooks := .later }
def FnExactEdgeLengthUptoCardSaid : Prop := Claim7.holds Tryd.pinned (.plain (OpenSpec.upto fnExactEdgeLengthSpec)) fnExactEdgeLengthUptoCard

/-- THE SECOND FORM's CARD OF 'laws.FnExactHullOfBorder'. -/
def fnExactHullOfBorderUptoCard : Claim7 := { stood := { row := fnExactHullOfBorderUptoRow, standIns := [], harness := (true, "8d01d38fbc3f17000f9f661a43ee1f83a036b4a3434332c7a86d11ea8a23537c"), looks := false }, kinds := [], alts := [], laidByText := true, laidKinds := [.data], laidTests := true, laidLooks := .later }
def FnExactHullOfBorderUptoCardSaid : Prop := Claim7.holds Tryd.pinned (.plain (OpenSpec.upto fnExactHullOfBorderSpec)) fnExactHullOfBorderUptoCard

/-- THE SECOND FORM's CARD OF 'laws.FnExactBorderFrom'. -/
def fnExactBorderFromUptoCard : Claim7 := { stood := { row := fnExactBorderFromUptoRow, standIns := [], harness := (true, "8d01d38fbc3f17000f9f661a43ee1f83a036b4a3434332c7a86d11ea8a23537c"), looks := false }, kinds := [], alts := [], laidByText := true, laidKinds := [.data], laidTests := true, laidLooks := .later }
def FnExactBorderFromUptoCardSaid : Prop := Claim7.holds Tryd.pinned (.plain (OpenSpec.upto fnExactBorderFromSpec)) fnExactBorderFromUptoCard
end Rows
end Go.Proofs.YtlmmeefcnjcceaaDoor
