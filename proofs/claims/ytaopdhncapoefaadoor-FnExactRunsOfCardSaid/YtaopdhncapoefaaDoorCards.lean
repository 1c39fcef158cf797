/-
  DERIVED. GIVEN WITH THE SEED: THE CARDS: each row of YtaopdhncapoefaaDoorRows.lean that lists a variable, with what it lists TIED to the program's text (the seventh form; the later family's looks); each row that meets fmt, with fmt's text TOLD by the authors' own Lean function (tested against real Go, not proved from fmt's source: count such statements apart). THE CARD IS WHAT COUNTS. Prove the row's statement (the work); the ties are given (YtaopdhncapoefaaDoorTie.lean); close each card by the builder's one call (the guide's Derived/Test/ToyasCard.lean, 'card_holds'). Laid BY PROGRAM, IN A SANDBOX (cutbox-door.mjs). By AI agents, Wed Nov 11 2026. No macro, syntax, notation, axiom, sorry.
-/
import Derived.Test.YtaopdhncapoefaaDoorRows
import GoSem.ClaimSeven
namespace Go.Proofs.YtaopdhncapoefaaDoor
namespace Rows

/-- THE TIED CARD OF 'laws.FnExactEdgeLength'. -/
def fnExactEdgeLengthCard : Claim7 := { stood := { row := fnExactEdgeLengthRow, standIns := [], harness := (true, "e9bf26b1f2a323807cc1cb9516011f89a2c853a55c77abaf39342b8d27b9e3e7"), looks := false }, kinds := [], alts := [], laidByText := true, laidKinds := [.sentinel, .data], laidTests := true, laidLooks := .later }
def FnExactEdgeLengthCardSaid : Prop := Claim7.holds Tryd.pinned (.plain (OpenSpec.ofChange fnExactEdgeLengthSpec)) fnExactEdgeLengthCard

/-- THE TIED CARD OF 'laws.FnExactQuadCounts'. -/
def fnExactQuadCountsCard : Claim7 := { stood := { row := fnExactQuadCountsRow, standIns := [], harness := (true, "e9bf26b1f2a323807cc1cb9516011f89a2c853a55c77abaf39342b8d27b9e3e7"), looks := false }, kinds := [], alts := [], laidByText := true, laidKinds := [.sentinel, .data, .sentinel], laidTests := true, laidLooks := .later }
def FnExactQuadCountsCardSaid : Prop := Claim7.holds Tryd.pinned (.plain (OpenSpec.ofChange fnExactQuadCountsSpec)) fnExactQuadCountsCard

/-- THE TIED CARD OF 'laws.FnExactEndsOf'. -/
def fnExactEndsOfCard : Claim7 := { stood := { row := fnExactEndsOfRow, standIns := [], harness := (true, "e9bf26b1f2a323807cc1cb9516011f89a2c853a55c77abaf39342b8d27b9e3e7"), looks := false }, kinds := [], alts := [], laidByText := true, laidKinds := [.sentinel, .sentinel, .data], laidTests := true, laidLooks := .later }
def FnExactEndsOfCardSaid : Prop := Claim7.holds Tryd.pinned (.plain (OpenSpec.ofChange fnExactEndsOfSpec)) fnExactEndsOfCard

/-- THE TIED CARD OF 'laws.FnExactRunsOf'. -/
def fnExactRunsOfCard : Claim7 := { stood := { row := fnExactRunsOfRow, standIns := [], harness := (true, "e9bf26b1f2a323807cc1cb9516011f89a2c853a55c77abaf39342b8d27b9e3e7"), looks := false }, kinds := [], alts := [], laidByText := true, laidKinds := [.data, .sentinel], laidTests := true, laidLooks := .later }
def FnExactRunsOfCardSaid : Prop := Claim7.holds Tryd.pinned (.plain (OpenSpec.ofChange fnExactRunsOfSpec)) fnExactRunsOfCard

/-- THE SECOND FORM's CARD OF 'laws.FnExactEdgeLength'. -/
def fnExactEdgeLengthUptoCard : Claim7 := { stood := { row := fnExactEdgeLengthUptoRow, standIns := [], harness := (true, "e9bf26b1f2a323807cc1cb9516011f89a2c853a55c77abaf39342b8d27b9e3e7"), looks := false }, kinds := [], alts := [], laidByText := true, laidKinds := [.sentinel, .data], laidTests := true, laidLooks := .later }
def FnExactEdgeLengthUptoCardSaid : Prop := Claim7.holds Tryd.pinned (.plain (OpenSpec.upto fnExactEdgeLengthSpec)) fnExactEdgeLengthUptoCard

/-- THE SECOND FORM's CARD OF 'laws.FnExactQuadCounts'. -/
def fnExactQuadCountsUptoCard : Claim7 := { stood := { row := fnExactQuadCountsUptoRow, standIns := [], harness := (true, "e9bf26b1f2a323807cc1cb9516011f89a2c853a55c77abaf39342b8d27b9e3e7"), looks := false }, kinds := [], alts := [], laidByText := true, laidKinds := [.sentinel, .data, .sentinel], laidTests := true, laidLooks := .later }
def FnExactQuadCountsUptoCardSaid : Prop := Claim7.holds Tryd.pinned (.plain (OpenSpec.upto fnExactQuadCountsSpec)) fnExactQuadCountsUptoCard

/-- THE SECOND FORM's CARD OF 'laws.FnExactEndsOf'. -/
def fnExactEndsOfUptoCard : Claim7 := { stood := { row := fnExactEndsOfUptoRow, standIns := [], harness := (true, "e9bf26b1f2a323807cc1cb9516011f89a2c853a55c77abaf39342b8d27b9e3e7"), looks := false }, kinds := [], alts := [], laidByText := true, laidKinds := [.sentinel, .sentinel, .data], laidTests := true, laidLooks := .later }
def FnExactEndsOfUptoCardSaid : Prop := Claim7.holds Tryd.pinned (.plain (OpenSpec.upto fnExactEndsOfSpec)) fnExactEndsOfUptoCard

/-- THE SECOND FORM's CARD OF 'laws.FnExactRunsOf'. -/
def fnExactRunsOfUptoCard : Claim7 := { stood := { row := fnExactRunsOfUptoRow, standIns := [], harness := (true, "e9bf26b1f2a323807cc1cb9516011f89a2c853a55c77abaf39342b8d27b9e3e7"), looks := false }, kinds := [], alts := [], laidByText := true, laidKinds := [.data, .sentinel], laidTests := true, laidLooks := .later }
def FnExactRunsOfUptoCardSaid : Prop := Claim7.holds Tryd.pinned (.plain (OpenSpec.upto fnExactRunsOfSpec)) fnExactRunsOfUptoCard
end Rows
end Go.Proofs.YtaopdhncapoefaaDoor
