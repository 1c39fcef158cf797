/-
  DERIVED. GIVEN WITH THE SEED: THE CARDS: each row of YtnmnlbgialolhaaDoorRows.lean that lists a variable, with what it lists TIED to the program's text (the seventh form; the later family's looks); each row that meets fmt, with fmt's text TOLD by the authors' own Lean function (tested against real Go, not proved from fmt's source: count such statements apart). THE CARD IS WHAT COUNTS. Prove the row's statement (the work); the ties are given (YtnmnlbgialolhaaDoorTie.lean); close each card by the builder's one call (the guide's Derived/Test/ToyasCard.lean, 'card_holds'). Laid BY PROGRAM, IN A SANDBOX (cutbox-door.mjs). By AI agents, Wed Nov 11 2026. No macro, syntax, notation, axiom, sorry.
-/
import Derived.Test.YtnmnlbgialolhaaDoorRows
import GoSem.ClaimSeven
namespace Go.Proofs.YtnmnlbgialolhaaDoor
namespace Rows

/-- THE TIED CARD OF 'laws.FnExactResidueOf'. -/
def fnExactResidueOfCard : Claim7 := { stood := { row := fnExactResidueOfRow, standIns := [], harness := (true, "c5dc117dbb803d730e5feec969f1e163825667ae1ce1cd83381a8eb3e751610f"), looks := false }, kinds := [], alts := [], laidByText := true, laidKinds := [.sentinel, .sentinel, .sentinel], laidTests := true, laidLooks := .later }
def FnExactResidueOfCardSaid : Prop := Claim7.holds Tryd.pinned (.plain (OpenSpec.ofChange fnExactResidueOfSpec)) fnExactResidueOfCard

/-- THE TIED CARD OF 'laws.FnExactFromResidue'. -/
def fnExactFromResidueCard : Claim7 := { stood := { row := fnExactFromResidueRow, standIns := [], harness := (true, "c5dc117dbb803d730e5feec969f1e163825667ae1ce1cd83381a8eb3e751610f"), looks := false }, kinds := [], alts := [], laidByText := true, laidKinds := [.sentinel, .sentinel, .sentinel], laidTests := true, laidLooks := .later }
def FnExactFromResidueCardSaid : Prop := Claim7.holds Tryd.pinned (.plain (OpenSpec.ofChange fnExactFromResidueSpec)) fnExactFromResidueCard

/-- THE TIED CARD OF 'laws.FnExactGreyOfPicture'. -/
def fnExactGreyOfPictureCard : Claim7 := { stood := { row := fnExactGreyOfPictureRow, standIns := [], harness := (true, "c5dc117dbb803d730e5feec969f1e163825667ae1ce1cd83381a8eb3e751610f"), looks := false }, kinds := [], alts := [], laidByText := true, laidKinds := [.sentinel, .sentinel], laidTests := true, laidLooks := .later }
def FnExactGreyOfPictureCardSaid : Prop := Claim7.holds Tryd.pinned (.plain (OpenSpec.ofChange fnExactGreyOfPictureSpec)) fnExactGreyOfPictureCard

/-- THE TIED CARD OF 'laws.FnExactMeanError'. -/
def fnExactMeanErrorCard : Claim7 := { stood := { row := fnExactMeanErrorRow, standIns := [], harness := (true, "c5dc117dbb803d730e5feec969f1e163825667ae1ce1cd83381a8eb3e751610f"), looks := false }, kinds := [], alts := [], laidByText := true, laidKinds := [.sentinel, .sentinel], laidTests := true, laidLooks := .later }
def FnExactMeanErrorCardSaid : Prop := Claim7.holds Tryd.pinned (.plain (OpenSpec.ofChange fnExactMeanErrorSpec)) fnExactMeanErrorCard

/-- THE TIED CARD OF 'laws.FnExactOrderedGrey'. -/
def fnExactOrderedGreyCard : Claim7 := { stood := { row := fnExactOrderedGreyRow, standIns := [], harness := (true, "c5dc117dbb803d730e5feec969f1e163825667ae1ce1cd83381a8eb3e751610f"), looks := false }, kinds := [], alts := [], laidByText := true, laidKinds := [.sentinel, .sentinel, .data], laidTests := true, laidLooks := .later }
def FnExactOrderedGreyCardSaid : Prop := Claim7.holds Tryd.pinned (.plain (OpenSpec.ofChange fnExactOrderedGreySpec)) fnExactOrderedGreyCard

/-- THE TIED CARD OF 'laws.FnExactSpreadGrey'. -/
def fnExactSpreadGreyCard : Claim7 := { stood := { row := fnExactSpreadGreyRow, standIns := [], harness := (true, "c5dc117dbb803d730e5feec969f1e163825667ae1ce1cd83381a8eb3e751610f"), looks := false }, kinds := [], alts := [], laidByText := true, laidKinds := [.sentinel, .sentinel, .data, .data], laidTests := true, laidLooks := .later }
def FnExactSpreadGreyCardSaid : Prop := Claim7.holds Tryd.pinned (.plain (OpenSpec.ofChange fnExactSpreadGreySpec)) fnExactSpreadGreyCard

/-- THE TIED CARD OF 'laws.FnResidues'. -/
def fnResiduesCard : Claim7 := { stood := { row := fnResiduesRow, standIns := [], harness := (true, "c5dc117dbb803d730e5feec969f1e163825667ae1ce1cd83381a8eb3e751610f"), looks := false }, kinds := [], alts := [], laidByText := true, laidKinds := [.sentinel, .sentinel, .sentinel], laidTests := true, laidLooks := .later }
def FnResiduesCardSaid : Prop := Claim7.holds Tryd.pinned (.plain (OpenSpec.ofChange fnResiduesSpec)) fnResiduesCard

/-- THE SECOND FORM's CARD OF 'laws.FnExactResidueOf'. -/
def fnExactResidueOfUptoCard : Claim7 := { stood := { row := fnExactResidueOfUptoRow, standIns := [], harness := (true, "c5dc117dbb803d730e5feec969f1e163825667ae1ce1cd83381a8eb3e751610f"), looks := false }, kinds := [], alts := [], laidByText := true, laidKinds := [.sentinel, .sentinel, .sentinel], laidTests := true, laidLooks := .later }
def FnExactResidueOfUptoCardSaid : Prop := Claim7.holds Tryd.pinned (.plain (OpenSpec.upto fnExactResidueOfSpec)) fnExactResidueOfUptoCard

/-- THE SECOND FORM's CARD OF 'laws.FnExactFromResidue'. -/
def fnExactFromResidueUptoCard : Claim7 := { stood := { row := fnExactFromResidueUptoRow, standIns := [], harness := (true, "c5dc117dbb803d730e5feec969f1e163825667ae1ce1cd83381a8eb3e751610f"), looks := false }, kinds := [], alts := [], laidByText := true, laidKinds := [.sentinel, .sentinel, .sentinel], laidTests := true, laidLooks := .later }
def FnExactFromResidueUptoCardSaid : Prop := Claim7.holds Tryd.pinned (.plain (OpenSpec.upto fnExactFromResidueSpec)) fnExactFromResidueUptoCard

/-- THE SECOND FORM's CARD OF 'laws.FnExactGreyOfPicture'. -/
def fnExactGreyOfPictureUptoCard : Claim7 := { stood := { row := fnExactGreyOfPictureUptoRow, standIns := [], harness := (true, "c5dc117dbb803d730e5feec969f1e163825667ae1ce1cd83381a8eb3e751610f"), looks := false }, kinds := [], alts := [], laidByText := true, laidKinds := [.sentinel, .sentinel], laidTests := true, laidLooks := .later }
def FnExactGreyOfPictureUptoCardSaid : Prop := Claim7.holds Tryd.pinned (.plain (OpenSpec.upto fnExactGreyOfPictureSpec)) fnExactGreyOfPictureUptoCard

/-- THE SECOND FORM's CARD OF 'laws.FnExactMeanError'. -/
def fnExactMeanErrorUptoCard : Claim7 := { stood := { row := fnExactMeanErrorUptoRow, standIns := [], harness := (true, "c5dc117dbb803d730e5feec969f1e163825667ae1ce1cd83381a8eb3e751610f"), looks := false }, kinds := [], alts := [], laidByText := true, laidKinds := [.sentinel, .sentinel], laidTests := true, laidLooks := .later }
def FnExactMeanErrorUptoCardSaid : Prop := Claim7.holds Tryd.pinned (.plain (OpenSpec.upto fnExactMeanErrorSpec)) fnExactMeanErrorUptoCard

/-- THE SECOND FORM's CARD OF 'laws.FnExactOrderedGrey'. -/
def fnExactOrderedGreyUptoCard : Claim7 := { stood := { row := fnExactOrderedGreyUptoRow, standIns := [], harness := (true, "c5dc117dbb803d730e5feec969f1e163825667ae1ce1cd83381a8eb3e751610f"), looks := false }, kinds := [], alts := [], laidByText := true, laidKinds := [.sentinel, .sentinel, .data], laidTests := true, laidLooks := .later }
def FnExactOrderedGreyUptoCardSaid : Prop := Claim7.holds Tryd.pinned (.plain (OpenSpec.upto fnExactOrderedGreySpec)) fnExactOrderedGreyUptoCard

/-- THE SECOND FORM's CARD OF 'laws.FnExactSpreadGrey'. -/
def fnExactSpreadGreyUptoCard : Claim7 := { stood := { row := fnExactSpreadGreyUptoRow, standIns := [], harness := (true, "c5dc117dbb803d730e5feec969f1e163825667ae1ce1cd83381a8eb3e751610f"), looks := false }, kinds := [], alts := [], laidByText := true, laidKinds := [.sentinel, .sentinel, .data, .data], laidTests := true, laidLooks := .later }
def FnExactSpreadGreyUptoCardSaid : Prop := Claim7.holds Tryd.pinned (.plain (OpenSpec.upto fnExactSpreadGreySpec)) fnExactSpreadGreyUptoCard

/-- THE SECOND FORM's CARD OF 'laws.FnResidues'. -/
def fnResiduesUptoCard : Claim7 := { stood := { row := fnResiduesUptoRow, standIns := [], harness := (true, "c5dc117dbb803d730e5feec969f1e163825667ae1ce1cd83381a8eb3e751610f"), looks := false }, kinds := [], alts := [], laidByText := true, laidKinds := [.sentinel, .sentinel, .sentinel], laidTests := true, laidLooks := .later }
def FnResiduesUptoCardSaid : Prop := Claim7.holds Tryd.pinned (.plain (OpenSpec.upto fnResiduesSpec)) fnResiduesUptoCard
end Rows
end Go.Proofs.YtnmnlbgialolhaaDoor
