/-
  DERIVED. GIVEN WITH THE SEED: THE CARDS: each row of YtabkkpifkkgpeaaDoorRows.lean that lists a variable, with what it lists TIED to the program's text (the seventh form; the later family's looks); each row that meets fmt, with fmt's text TOLD by the authors' own Lean function (tested against real Go, not proved from fmt's source: count such statements apart). THE CARD IS WHAT COUNTS. Prove the row's statement (the work); the ties are given (YtabkkpifkkgpeaaDoorTie.lean); close each card by the builder's one call (the guide's Derived/Test/ToyasCard.lean, 'card_holds'). Laid BY PROGRAM, IN A SANDBOX (cutbox-door.mjs). By AI agents, Wed Nov 11 2026. No macro, syntax, notation, axiom, sorry.
-/
import Derived.Test.YtabkkpifkkgpeaaDoorRows
import GoSem.ClaimSeven
namespace Go.Proofs.YtabkkpifkkgpeaaDoor
namespace Rows

/-- THE TIED CARD OF 'laws.FnCurves'. -/
def fnCurvesCard : Claim7 := { stood := { row := fnCurvesRow, standIns := [], harness := (true, "c199c9801865dd7093418b28f7daea768b0dd351f5784bd3ba930e945ee102cf"), looks := false }, kinds := [], alts := [], laidByText := true, laidKinds := [.sentinel, .data], laidTests := true, laidLooks := .later }
def FnCurvesCardSaid : Prop := Claim7.holds Tryd.pinned (.plain (OpenSpec.ofChange fnCurvesSpec)) fnCurvesCard

/-- THE TIED CARD OF 'laws.FnIntervals'. -/
def fnIntervalsCard : Claim7 := { stood := { row := fnIntervalsRow, standIns := [], harness := (true, "c199c9801865dd7093418b28f7daea768b0dd351f5784bd3ba930e945ee102cf"), looks := false }, kinds := [], alts := [], laidByText := true, laidKinds := [.sentinel, .data], laidTests := true, laidLooks := .later }
def FnIntervalsCardSaid : Prop := Claim7.holds Tryd.pinned (.plain (OpenSpec.ofChange fnIntervalsSpec)) fnIntervalsCard

/-- THE TIED CARD OF 'laws.FnFitting'. -/
def fnFittingCard : Claim7 := { stood := { row := fnFittingRow, standIns := [], harness := (true, "c199c9801865dd7093418b28f7daea768b0dd351f5784bd3ba930e945ee102cf"), looks := false }, kinds := [], alts := [], laidByText := true, laidKinds := [.sentinel, .sentinel], laidTests := true, laidLooks := .later }
def FnFittingCardSaid : Prop := Claim7.holds Tryd.pinned (.plain (OpenSpec.ofChange fnFittingSpec)) fnFittingCard

/-- THE TIED CARD OF 'laws.FnJoins'. -/
def fnJoinsCard : Claim7 := { stood := { row := fnJoinsRow, standIns := [], harness := (true, "c199c9801865dd7093418b28f7daea768b0dd351f5784bd3ba930e945ee102cf"), looks := false }, kinds := [], alts := [], laidByText := true, laidKinds := [.sentinel, .sentinel], laidTests := true, laidLooks := .later }
def FnJoinsCardSaid : Prop := Claim7.holds Tryd.pinned (.plain (OpenSpec.ofChange fnJoinsSpec)) fnJoinsCard

/-- THE TIED CARD OF 'laws.FnOpenings'. -/
def fnOpeningsCard : Claim7 := { stood := { row := fnOpeningsRow, standIns := [], harness := (true, "c199c9801865dd7093418b28f7daea768b0dd351f5784bd3ba930e945ee102cf"), looks := false }, kinds := [], alts := [], laidByText := true, laidKinds := [.sentinel, .sentinel], laidTests := true, laidLooks := .later }
def FnOpeningsCardSaid : Prop := Claim7.holds Tryd.pinned (.plain (OpenSpec.ofChange fnOpeningsSpec)) fnOpeningsCard

/-- THE TIED CARD OF 'laws.FnExactPictureFromRuns'. -/
def fnExactPictureFromRunsCard : Claim7 := { stood := { row := fnExactPictureFromRunsRow, standIns := [], harness := (true, "c199c9801865dd7093418b28f7daea768b0dd351f5784bd3ba930e945ee102cf"), looks := false }, kinds := [], alts := [], laidByText := true, laidKinds := [.sentinel, .sentinel, .data], laidTests := true, laidLooks := .later }
def FnExactPictureFromRunsCardSaid : Prop := Claim7.holds Tryd.pinned (.plain (OpenSpec.ofChange fnExactPictureFromRunsSpec)) fnExactPictureFromRunsCard

/-- THE SECOND FORM's CARD OF 'laws.FnCurves'. -/
def fnCurvesUptoCard : Claim7 := { stood := { row := fnCurvesUptoRow, standIns := [], harness := (true, "c199c9801865dd7093418b28f7daea768b0dd351f5784bd3ba930e945ee102cf"), looks := false }, kinds := [], alts := [], laidByText := true, laidKinds := [.sentinel, .data], laidTests := true, laidLooks := .later }
def FnCurvesUptoCardSaid : Prop := Claim7.holds Tryd.pinned (.plain (OpenSpec.upto fnCurvesSpec)) fnCurvesUptoCard

/-- THE SECOND FORM's CARD OF 'laws.FnIntervals'. -/
def fnIntervalsUptoCard : Claim7 := { stood := { row := fnIntervalsUptoRow, standIns := [], harness := (true, "c199c9801865dd7093418b28f7daea768b0dd351f5784bd3ba930e945ee102cf"), looks := false }, kinds := [], alts := [], laidByText := true, laidKinds := [.sentinel, .data], laidTests := true, laidLooks := .later }
def FnIntervalsUptoCardSaid : Prop := Claim7.holds Tryd.pinned (.plain (OpenSpec.upto fnIntervalsSpec)) fnIntervalsUptoCard

/-- THE SECOND FORM's CARD OF 'laws.FnFitting'. -/
def fnFittingUptoCard : Claim7 := { stood := { row := fnFittingUptoRow, standIns := [], harness := (true, "c199c9801865dd7093418b28f7daea768b0dd351f5784bd3ba930e945ee102cf"), looks := false }, kinds := [], alts := [], laidByText := true, laidKinds := [.sentinel, .sentinel], laidTests := true, laidLooks := .later }
def FnFittingUptoCardSaid : Prop := Claim7.holds Tryd.pinned (.plain (OpenSpec.upto fnFittingSpec)) fnFittingUptoCard

/-- THE SECOND FORM's CARD OF 'laws.FnJoins'. -/
def fnJoinsUptoCard : Claim7 := { stood := { row := fnJoinsUptoRow, standIns := [], harness := (true, "c199c9801865dd7093418b28f7daea768b0dd351f5784bd3ba930e945ee102cf"), looks := false }, kinds := [], alts := [], laidByText := true, laidKinds := [.sentinel, .sentinel], laidTests := true, laidLooks := .later }
def FnJoinsUptoCardSaid : Prop := Claim7.holds Tryd.pinned (.plain (OpenSpec.upto fnJoinsSpec)) fnJoinsUptoCard

/-- THE SECOND FORM's CARD OF 'laws.FnOpenings'. -/
def fnOpeningsUptoCard : Claim7 := { stood := { row := fnOpeningsUptoRow, standIns := [], harness := (true, "c199c9801865dd7093418b28f7daea768b0dd351f5784bd3ba930e945ee102cf"), looks := false }, kinds := [], alts := [], laidByText := true, laidKinds := [.sentinel, .sentinel], laidTests := true, laidLooks := .later }
def FnOpeningsUptoCardSaid : Prop := Claim7.holds Tryd.pinned (.plain (OpenSpec.upto fnOpeningsSpec)) fnOpeningsUptoCard

/-- THE SECOND FORM's CARD OF 'laws.FnExactPictureFromRuns'. -/
def fnExactPictureFromRunsUptoCard : Claim7 := { stood := { row := fnExactPictureFromRunsUptoRow, standIns := [], harness := (true, "c199c9801865dd7093418b28f7daea768b0dd351f5784bd3ba930e945ee102cf"), looks := false }, kinds := [], alts := [], laidByText := true, laidKinds := [.sentinel, .sentinel, .data], laidTests := true, laidLooks := .later }
def FnExactPictureFromRunsUptoCardSaid : Prop := Claim7.holds Tryd.pinned (.plain (OpenSpec.upto fnExactPictureFromRunsSpec)) fnExactPictureFromRunsUptoCard
end Rows
end Go.Proofs.YtabkkpifkkgpeaaDoor
