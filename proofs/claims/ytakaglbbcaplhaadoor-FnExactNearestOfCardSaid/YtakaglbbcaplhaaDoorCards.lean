/-
  DERIVED. GIVEN WITH THE SEED: THE CARDS: each row of YtakaglbbcaplhaaDoorRows.lean that lists a variable, with what it lists TIED to the program's text (the seventh form; the later family's looks); each row that meets fmt, with fmt's text TOLD by the authors' own Lean function (tested against real Go, not proved from fmt's source: count such statements apart). THE CARD IS WHAT COUNTS. Prove the row's statement (the work); the ties are given (YtakaglbbcaplhaaDoorTie.lean); close each card by the builder's one call (the guide's Derived/Test/ToyasCard.lean, 'card_holds'). Laid BY PROGRAM, IN A SANDBOX (cutbox-door.mjs). By AI agents, Wed Nov 11 2026. No macro, syntax, notation, axiom, sorry.
-/
import Derived.Test.YtakaglbbcaplhaaDoorRows
import GoSem.ClaimSeven
namespace Go.Proofs.YtakaglbbcaplhaaDoor
namespace Rows

/-- THE TIED CARD OF 'laws.FnExactIsSimple'. -/
def fnExactIsSimpleCard : Claim7 := { stood := { row := fnExactIsSimpleRow, standIns := [], harness := (true, "862444ca28de2ff8c76f4a7074d267179abce08d821f95638020dda6ad311e32"), looks := false }, kinds := [], alts := [], laidByText := true, laidKinds := [.sentinel, .data], laidTests := true, laidLooks := .later }
def FnExactIsSimpleCardSaid : Prop := Claim7.holds Tryd.pinned (.plain (OpenSpec.ofChange fnExactIsSimpleSpec)) fnExactIsSimpleCard

/-- THE TIED CARD OF 'laws.FnExactComponentsOf'. -/
def fnExactComponentsOfCard : Claim7 := { stood := { row := fnExactComponentsOfRow, standIns := [], harness := (true, "862444ca28de2ff8c76f4a7074d267179abce08d821f95638020dda6ad311e32"), looks := false }, kinds := [], alts := [], laidByText := true, laidKinds := [.sentinel, .sentinel], laidTests := true, laidLooks := .later }
def FnExactComponentsOfCardSaid : Prop := Claim7.holds Tryd.pinned (.plain (OpenSpec.ofChange fnExactComponentsOfSpec)) fnExactComponentsOfCard

/-- THE TIED CARD OF 'laws.FnExactAreasOf'. -/
def fnExactAreasOfCard : Claim7 := { stood := { row := fnExactAreasOfRow, standIns := [], harness := (true, "862444ca28de2ff8c76f4a7074d267179abce08d821f95638020dda6ad311e32"), looks := false }, kinds := [], alts := [], laidByText := true, laidKinds := [.sentinel, .sentinel], laidTests := true, laidLooks := .later }
def FnExactAreasOfCardSaid : Prop := Claim7.holds Tryd.pinned (.plain (OpenSpec.ofChange fnExactAreasOfSpec)) fnExactAreasOfCard

/-- THE TIED CARD OF 'laws.FnExactCountHoles'. -/
def fnExactCountHolesCard : Claim7 := { stood := { row := fnExactCountHolesRow, standIns := [], harness := (true, "862444ca28de2ff8c76f4a7074d267179abce08d821f95638020dda6ad311e32"), looks := false }, kinds := [], alts := [], laidByText := true, laidKinds := [.sentinel, .sentinel], laidTests := true, laidLooks := .later }
def FnExactCountHolesCardSaid : Prop := Claim7.holds Tryd.pinned (.plain (OpenSpec.ofChange fnExactCountHolesSpec)) fnExactCountHolesCard

/-- THE TIED CARD OF 'laws.FnExactEulerNumber'. -/
def fnExactEulerNumberCard : Claim7 := { stood := { row := fnExactEulerNumberRow, standIns := [], harness := (true, "862444ca28de2ff8c76f4a7074d267179abce08d821f95638020dda6ad311e32"), looks := false }, kinds := [], alts := [], laidByText := true, laidKinds := [.sentinel, .sentinel], laidTests := true, laidLooks := .later }
def FnExactEulerNumberCardSaid : Prop := Claim7.holds Tryd.pinned (.plain (OpenSpec.ofChange fnExactEulerNumberSpec)) fnExactEulerNumberCard

/-- THE TIED CARD OF 'laws.FnExactLargestComponent'. -/
def fnExactLargestComponentCard : Claim7 := { stood := { row := fnExactLargestComponentRow, standIns := [], harness := (true, "862444ca28de2ff8c76f4a7074d267179abce08d821f95638020dda6ad311e32"), looks := false }, kinds := [], alts := [], laidByText := true, laidKinds := [.sentinel, .sentinel, .sentinel], laidTests := true, laidLooks := .later }
def FnExactLargestComponentCardSaid : Prop := Claim7.holds Tryd.pinned (.plain (OpenSpec.ofChange fnExactLargestComponentSpec)) fnExactLargestComponentCard

/-- THE TIED CARD OF 'laws.FnExactKeepComponents'. -/
def fnExactKeepComponentsCard : Claim7 := { stood := { row := fnExactKeepComponentsRow, standIns := [], harness := (true, "862444ca28de2ff8c76f4a7074d267179abce08d821f95638020dda6ad311e32"), looks := false }, kinds := [], alts := [], laidByText := true, laidKinds := [.sentinel, .sentinel, .sentinel], laidTests := true, laidLooks := .later }
def FnExactKeepComponentsCardSaid : Prop := Claim7.holds Tryd.pinned (.plain (OpenSpec.ofChange fnExactKeepComponentsSpec)) fnExactKeepComponentsCard

/-- THE TIED CARD OF 'laws.FnExactFarSpots'. -/
def fnExactFarSpotsCard : Claim7 := { stood := { row := fnExactFarSpotsRow, standIns := [], harness := (true, "862444ca28de2ff8c76f4a7074d267179abce08d821f95638020dda6ad311e32"), looks := false }, kinds := [], alts := [], laidByText := true, laidKinds := [.sentinel], laidTests := true, laidLooks := .later }
def FnExactFarSpotsCardSaid : Prop := Claim7.holds Tryd.pinned (.plain (OpenSpec.ofChange fnExactFarSpotsSpec)) fnExactFarSpotsCard

/-- THE TIED CARD OF 'laws.FnExactNearestOf'. -/
def fnExactNearestOfCard : Claim7 := { stood := { row := fnExactNearestOfRow, standIns := [], harness := (true, "862444ca28de2ff8c76f4a7074d267179abce08d821f95638020dda6ad311e32"), looks := false }, kinds := [], alts := [], laidByText := true, laidKinds := [.sentinel, .sentinel], laidTests := true, laidLooks := .later }
def FnExactNearestOfCardSaid : Prop := Claim7.holds Tryd.pinned (.plain (OpenSpec.ofChange fnExactNearestOfSpec)) fnExactNearestOfCard

/-- THE TIED CARD OF 'laws.FnExactGrowBy'. -/
def fnExactGrowByCard : Claim7 := { stood := { row := fnExactGrowByRow, standIns := [], harness := (true, "862444ca28de2ff8c76f4a7074d267179abce08d821f95638020dda6ad311e32"), looks := false }, kinds := [], alts := [], laidByText := true, laidKinds := [.sentinel, .sentinel, .sentinel], laidTests := true, laidLooks := .later }
def FnExactGrowByCardSaid : Prop := Claim7.holds Tryd.pinned (.plain (OpenSpec.ofChange fnExactGrowBySpec)) fnExactGrowByCard

/-- THE TIED CARD OF 'laws.FnExactShrinkBy'. -/
def fnExactShrinkByCard : Claim7 := { stood := { row := fnExactShrinkByRow, standIns := [], harness := (true, "862444ca28de2ff8c76f4a7074d267179abce08d821f95638020dda6ad311e32"), looks := false }, kinds := [], alts := [], laidByText := true, laidKinds := [.sentinel, .sentinel, .sentinel], laidTests := true, laidLooks := .later }
def FnExactShrinkByCardSaid : Prop := Claim7.holds Tryd.pinned (.plain (OpenSpec.ofChange fnExactShrinkBySpec)) fnExactShrinkByCard

/-- THE TIED CARD OF 'laws.FnExactDistancesOf'. -/
def fnExactDistancesOfCard : Claim7 := { stood := { row := fnExactDistancesOfRow, standIns := [], harness := (true, "862444ca28de2ff8c76f4a7074d267179abce08d821f95638020dda6ad311e32"), looks := false }, kinds := [], alts := [], laidByText := true, laidKinds := [.sentinel, .sentinel], laidTests := true, laidLooks := .later }
def FnExactDistancesOfCardSaid : Prop := Claim7.holds Tryd.pinned (.plain (OpenSpec.ofChange fnExactDistancesOfSpec)) fnExactDistancesOfCard

/-- THE SECOND FORM's CARD OF 'laws.FnExactIsSimple'. -/
def fnExactIsSimpleUptoCard : Claim7 := { stood := { row := fnExactIsSimpleUptoRow, standIns := [], harness := (true, "862444ca28de2ff8c76f4a7074d267179abce08d821f95638020dda6ad311e32"), looks := false }, kinds := [], alts := [], laidByText := true, laidKinds := [.sentinel, .data], laidTests := true, laidLooks := .later }
def FnExactIsSimpleUptoCardSaid : Prop := Claim7.holds Tryd.pinned (.plain (OpenSpec.upto fnExactIsSimpleSpec)) fnExactIsSimpleUptoCard

/-- THE SECOND FORM's CARD OF 'laws.FnExactComponentsOf'. -/
def fnExactComponentsOfUptoCard : Claim7 := { stood := { row := fnExactComponentsOfUptoRow, standIns := [], harness := (true, "862444ca28de2ff8c76f4a7074d267179abce08d821f95638020dda6ad311e32"), looks := false }, kinds := [], alts := [], laidByText := true, laidKinds := [.sentinel, .sentinel], laidTests := true, laidLooks := .later }
def FnExactComponentsOfUptoCardSaid : Prop := Claim7.holds Tryd.pinned (.plain (OpenSpec.upto fnExactComponentsOfSpec)) fnExactComponentsOfUptoCard

/-- THE SECOND FORM's CARD OF 'laws.FnExactAreasOf'. -/
def fnExactAreasOfUptoCard : Claim7 := { stood := { row := fnExactAreasOfUptoRow, standIns := [], harness := (true, "862444ca28de2ff8c76f4a7074d267179abce08d821f95638020dda6ad311e32"), looks := false }, kinds := [], alts := [], laidByText := true, laidKinds := [.sentinel, .sentinel], laidTests := true, laidLooks := .later }
def FnExactAreasOfUptoCardSaid : Prop := Claim7.holds Tryd.pinned (.plain (OpenSpec.upto fnExactAreasOfSpec)) fnExactAreasOfUptoCard

/-- THE SECOND FORM's CARD OF 'laws.FnExactCountHoles'. -/
def fnExactCountHolesUptoCard : Claim7 := { stood := { row := fnExactCountHolesUptoRow, standIns := [], harness := (true, "862444ca28de2ff8c76f4a7074d267179abce08d821f95638020dda6ad311e32"), looks := false }, kinds := [], alts := [], laidByText := true, laidKinds := [.sentinel, .sentinel], laidTests := true, laidLooks := .later }
def FnExactCountHolesUptoCardSaid : Prop := Claim7.holds Tryd.pinned (.plain (OpenSpec.upto fnExactCountHolesSpec)) fnExactCountHolesUptoCard

/-- THE SECOND FORM's CARD OF 'laws.FnExactEulerNumber'. -/
def fnExactEulerNumberUptoCard : Claim7 := { stood := { row := fnExactEulerNumberUptoRow, standIns := [], harness := (true, "862444ca28de2ff8c76f4a7074d267179abce08d821f95638020dda6ad311e32"), looks := false }, kinds := [], alts := [], laidByText := true, laidKinds := [.sentinel, .sentinel], laidTests := true, laidLooks := .later }
def FnExactEulerNumberUptoCardSaid : Prop := Claim7.holds Tryd.pinned (.plain (OpenSpec.upto fnExactEulerNumberSpec)) fnExactEulerNumberUptoCard

/-- THE SECOND FORM's CARD OF 'laws.FnExactLargestComponent'. -/
def fnExactLargestComponentUptoCard : Claim7 := { stood := { row := fnExactLargestComponentUptoRow, standIns := [], harness := (true, "862444ca28de2ff8c76f4a7074d267179abce08d821f95638020dda6ad311e32"), looks := false }, kinds := [], alts := [], laidByText := true, laidKinds := [.sentinel, .sentinel, .sentinel], laidTests := true, laidLooks := .later }
def FnExactLargestComponentUptoCardSaid : Prop := Claim7.holds Tryd.pinned (.plain (OpenSpec.upto fnExactLargestComponentSpec)) fnExactLargestComponentUptoCard

/-- THE SECOND FORM's CARD OF 'laws.FnExactKeepComponents'. -/
def fnExactKeepComponentsUptoCard : Claim7 := { stood := { row := fnExactKeepComponentsUptoRow, standIns := [], harness := (true, "862444ca28de2ff8c76f4a7074d267179abce08d821f95638020dda6ad311e32"), looks := false }, kinds := [], alts := [], laidByText := true, laidKinds := [.sentinel, .sentinel, .sentinel], laidTests := true, laidLooks := .later }
def FnExactKeepComponentsUptoCardSaid : Prop := Claim7.holds Tryd.pinned (.plain (OpenSpec.upto fnExactKeepComponentsSpec)) fnExactKeepComponentsUptoCard

/-- THE SECOND FORM's CARD OF 'laws.FnExactFarSpots'. -/
def fnExactFarSpotsUptoCard : Claim7 := { stood := { row := fnExactFarSpotsUptoRow, standIns := [], harness := (true, "862444ca28de2ff8c76f4a7074d267179abce08d821f95638020dda6ad311e32"), looks := false }, kinds := [], alts := [], laidByText := true, laidKinds := [.sentinel], laidTests := true, laidLooks := .later }
def FnExactFarSpotsUptoCardSaid : Prop := Claim7.holds Tryd.pinned (.plain (OpenSpec.upto fnExactFarSpotsSpec)) fnExactFarSpotsUptoCard

/-- THE SECOND FORM's CARD OF 'laws.FnExactNearestOf'. -/
def fnExactNearestOfUptoCard : Claim7 := { stood := { row := fnExactNearestOfUptoRow, standIns := [], harness := (true, "862444ca28de2ff8c76f4a7074d267179abce08d821f95638020dda6ad311e32"), looks := false }, kinds := [], alts := [], laidByText := true, laidKinds := [.sentinel, .sentinel], laidTests := true, laidLooks := .later }
def FnExactNearestOfUptoCardSaid : Prop := Claim7.holds Tryd.pinned (.plain (OpenSpec.upto fnExactNearestOfSpec)) fnExactNearestOfUptoCard

/-- THE SECOND FORM's CARD OF 'laws.FnExactGrowBy'. -/
def fnExactGrowByUptoCard : Claim7 := { stood := { row := fnExactGrowByUptoRow, standIns := [], harness := (true, "862444ca28de2ff8c76f4a7074d267179abce08d821f95638020dda6ad311e32"), looks := false }, kinds := [], alts := [], laidByText := true, laidKinds := [.sentinel, .sentinel, .sentinel], laidTests := true, laidLooks := .later }
def FnExactGrowByUptoCardSaid : Prop := Claim7.holds Tryd.pinned (.plain (OpenSpec.upto fnExactGrowBySpec)) fnExactGrowByUptoCard

/-- THE SECOND FORM's CARD OF 'laws.FnExactShrinkBy'. -/
def fnExactShrinkByUptoCard : Claim7 := { stood := { row := fnExactShrinkByUptoRow, standIns := [], harness := (true, "862444ca28de2ff8c76f4a7074d267179abce08d821f95638020dda6ad311e32"), looks := false }, kinds := [], alts := [], laidByText := true, laidKinds := [.sentinel, .sentinel, .sentinel], laidTests := true, laidLooks := .later }
def FnExactShrinkByUptoCardSaid : Prop := Claim7.holds Tryd.pinned (.plain (OpenSpec.upto fnExactShrinkBySpec)) fnExactShrinkByUptoCard

/-- THE SECOND FORM's CARD OF 'laws.FnExactDistancesOf'. -/
def fnExactDistancesOfUptoCard : Claim7 := { stood := { row := fnExactDistancesOfUptoRow, standIns := [], harness := (true, "862444ca28de2ff8c76f4a7074d267179abce08d821f95638020dda6ad311e32"), looks := false }, kinds := [], alts := [], laidByText := true, laidKinds := [.sentinel, .sentinel], laidTests := true, laidLooks := .later }
def FnExactDistancesOfUptoCardSaid : Prop := Claim7.holds Tryd.pinned (.plain (OpenSpec.upto fnExactDistancesOfSpec)) fnExactDistancesOfUptoCard
end Rows
end Go.Proofs.YtakaglbbcaplhaaDoor
