/-
  DERIVED. GIVEN WITH THE SEED: THE CARDS: each row of YthkmfiipmhlbjaaDoorRows.lean that lists a variable, with what it lists TIED to the program's text (the seventh form; the later family's looks); each row that meets fmt, with fmt's text TOLD by the authors' own Lean function (tested against real Go, not proved from fmt's source: count such statements apart). THE CARD IS WHAT COUNTS. Prove the row's statement (the work); the ties are given (YthkmfiipmhlbjaaDoorTie.lean); close each card by the builder's one call (the guide's Derived/Test/ToyasCard.lean, 'card_holds'). Laid BY PROGRAM, IN A SANDBOX (cutbox-door.mjs). By AI agents, Wed Nov 11 2026. No macro, syntax, notation, axiom, sorry.
-/
import Derived.Test.YthkmfiipmhlbjaaDoorRows
import GoSem.ClaimSeven
namespace Go.Proofs.YthkmfiipmhlbjaaDoor
namespace Rows

/-- THE TIED CARD OF 'laws.FnExactValidGrey'. -/
def fnExactValidGreyCard : Claim7 := { stood := { row := fnExactValidGreyRow, standIns := [], harness := (true, "48604af4f5b29f9c295cec23389beb6628f439db794bbc4018c2747c2365fdab"), looks := true }, kinds := [], alts := [], laidByText := true, laidKinds := [.sentinel], laidTests := true, laidLooks := .later }
def FnExactValidGreyCardSaid : Prop := Claim7.holds Tryd.pinned (.plain (OpenSpec.ofChange fnExactValidGreySpec)) fnExactValidGreyCard

/-- THE TIED CARD OF 'laws.FnExactThresholdGrey'. -/
def fnExactThresholdGreyCard : Claim7 := { stood := { row := fnExactThresholdGreyRow, standIns := [], harness := (true, "48604af4f5b29f9c295cec23389beb6628f439db794bbc4018c2747c2365fdab"), looks := true }, kinds := [], alts := [], laidByText := true, laidKinds := [.sentinel, .sentinel], laidTests := true, laidLooks := .later }
def FnExactThresholdGreyCardSaid : Prop := Claim7.holds Tryd.pinned (.plain (OpenSpec.ofChange fnExactThresholdGreySpec)) fnExactThresholdGreyCard

/-- THE TIED CARD OF 'laws.FnExactInvertGrey'. -/
def fnExactInvertGreyCard : Claim7 := { stood := { row := fnExactInvertGreyRow, standIns := [], harness := (true, "48604af4f5b29f9c295cec23389beb6628f439db794bbc4018c2747c2365fdab"), looks := true }, kinds := [], alts := [], laidByText := true, laidKinds := [.sentinel], laidTests := true, laidLooks := .later }
def FnExactInvertGreyCardSaid : Prop := Claim7.holds Tryd.pinned (.plain (OpenSpec.ofChange fnExactInvertGreySpec)) fnExactInvertGreyCard

/-- THE TIED CARD OF 'laws.FnExactStackPictures'. -/
def fnExactStackPicturesCard : Claim7 := { stood := { row := fnExactStackPicturesRow, standIns := [], harness := (true, "48604af4f5b29f9c295cec23389beb6628f439db794bbc4018c2747c2365fdab"), looks := true }, kinds := [], alts := [], laidByText := true, laidKinds := [.sentinel, .sentinel], laidTests := true, laidLooks := .later }
def FnExactStackPicturesCardSaid : Prop := Claim7.holds Tryd.pinned (.plain (OpenSpec.ofChange fnExactStackPicturesSpec)) fnExactStackPicturesCard

/-- THE TIED CARD OF 'laws.FnExactGreyText'. -/
def fnExactGreyTextCard : Claim7 := { stood := { row := fnExactGreyTextRow, standIns := [], harness := (true, "48604af4f5b29f9c295cec23389beb6628f439db794bbc4018c2747c2365fdab"), looks := true }, kinds := [], alts := [], laidByText := true, laidKinds := [.data, .data, .data, .sentinel, .sentinel], laidTests := true, laidLooks := .later }
def FnExactGreyTextCardSaid : Prop := Claim7.holds Tryd.pinned (.plain (OpenSpec.ofChange fnExactGreyTextSpec)) fnExactGreyTextCard

/-- THE TIED CARD OF 'laws.FnExactReadGrey'. -/
def fnExactReadGreyCard : Claim7 := { stood := { row := fnExactReadGreyRow, standIns := [], harness := (true, "48604af4f5b29f9c295cec23389beb6628f439db794bbc4018c2747c2365fdab"), looks := true }, kinds := [], alts := [], laidByText := true, laidKinds := [.data, .data, .data, .data, .sentinel, .sentinel, .sentinel, .pinned], laidTests := true, laidLooks := .later }
def FnExactReadGreyCardSaid : Prop := Claim7.holds Tryd.pinned (.plain (OpenSpec.ofChange fnExactReadGreySpec)) fnExactReadGreyCard

/-- THE TIED CARD OF 'laws.FnExactCutPeaks'. -/
def fnExactCutPeaksCard : Claim7 := { stood := { row := fnExactCutPeaksRow, standIns := [], harness := (true, "48604af4f5b29f9c295cec23389beb6628f439db794bbc4018c2747c2365fdab"), looks := true }, kinds := [], alts := [], laidByText := true, laidKinds := [.sentinel, .data], laidTests := true, laidLooks := .later }
def FnExactCutPeaksCardSaid : Prop := Claim7.holds Tryd.pinned (.plain (OpenSpec.ofChange fnExactCutPeaksSpec)) fnExactCutPeaksCard

/-- THE TIED CARD OF 'laws.FnExactReconstructGrey'. -/
def fnExactReconstructGreyCard : Claim7 := { stood := { row := fnExactReconstructGreyRow, standIns := [], harness := (true, "48604af4f5b29f9c295cec23389beb6628f439db794bbc4018c2747c2365fdab"), looks := true }, kinds := [], alts := [], laidByText := true, laidKinds := [.sentinel, .data], laidTests := true, laidLooks := .later }
def FnExactReconstructGreyCardSaid : Prop := Claim7.holds Tryd.pinned (.plain (OpenSpec.ofChange fnExactReconstructGreySpec)) fnExactReconstructGreyCard

/-- THE SECOND FORM's CARD OF 'laws.FnExactValidGrey'. -/
def fnExactValidGreyUptoCard : Claim7 := { stood := { row := fnExactValidGreyUptoRow, standIns := [], harness := (true, "48604af4f5b29f9c295cec23389beb6628f439db794bbc4018c2747c2365fdab"), looks := true }, kinds := [], alts := [], laidByText := true, laidKinds := [.sentinel], laidTests := true, laidLooks := .later }
def FnExactValidGreyUptoCardSaid : Prop := Claim7.holds Tryd.pinned (.plain (OpenSpec.upto fnExactValidGreySpec)) fnExactValidGreyUptoCard

/-- THE SECOND FORM's CARD OF 'laws.FnExactThresholdGrey'. -/
def fnExactThresholdGreyUptoCard : Claim7 := { stood := { row := fnExactThresholdGreyUptoRow, standIns := [], harness := (true, "48604af4f5b29f9c295cec23389beb6628f439db794bbc4018c2747c2365fdab"), looks := true }, kinds := [], alts := [], laidByText := true, laidKinds := [.sentinel, .sentinel], laidTests := true, laidLooks := .later }
def FnExactThresholdGreyUptoCardSaid : Prop := Claim7.holds Tryd.pinned (.plain (OpenSpec.upto fnExactThresholdGreySpec)) fnExactThresholdGreyUptoCard

/-- THE SECOND FORM's CARD OF 'laws.FnExactInvertGrey'. -/
def fnExactInvertGreyUptoCard : Claim7 := { stood := { row := fnExactInvertGreyUptoRow, standIns := [], harness := (true, "48604af4f5b29f9c295cec23389beb6628f439db794bbc4018c2747c2365fdab"), looks := true }, kinds := [], alts := [], laidByText := true, laidKinds := [.sentinel], laidTests := true, laidLooks := .later }
def FnExactInvertGreyUptoCardSaid : Prop := Claim7.holds Tryd.pinned (.plain (OpenSpec.upto fnExactInvertGreySpec)) fnExactInvertGreyUptoCard

/-- THE SECOND FORM's CARD OF 'laws.FnExactStackPictures'. -/
def fnExactStackPicturesUptoCard : Claim7 := { stood := { row := fnExactStackPicturesUptoRow, standIns := [], harness := (true, "48604af4f5b29f9c295cec23389beb6628f439db794bbc4018c2747c2365fdab"), looks := true }, kinds := [], alts := [], laidByText := true, laidKinds := [.sentinel, .sentinel], laidTests := true, laidLooks := .later }
def FnExactStackPicturesUptoCardSaid : Prop := Claim7.holds Tryd.pinned (.plain (OpenSpec.upto fnExactStackPicturesSpec)) fnExactStackPicturesUptoCard

/-- THE SECOND FORM's CARD OF 'laws.FnExactGreyText'. -/
def fnExactGreyTextUptoCard : Claim7 := { stood := { row := fnExactGreyTextUptoRow, standIns := [], harness := (true, "48604af4f5b29f9c295cec23389beb6628f439db794bbc4018c2747c2365fdab"), looks := true }, kinds := [], alts := [], laidByText := true, laidKinds := [.data, .data, .data, .sentinel, .sentinel], laidTests := true, laidLooks := .later }
def FnExactGreyTextUptoCardSaid : Prop := Claim7.holds Tryd.pinned (.plain (OpenSpec.upto fnExactGreyTextSpec)) fnExactGreyTextUptoCard

/-- THE SECOND FORM's CARD OF 'laws.FnExactReadGrey'. -/
def fnExactReadGreyUptoCard : Claim7 := { stood := { row := fnExactReadGreyUptoRow, standIns := [], harness := (true, "48604af4f5b29f9c295cec23389beb6628f439db794bbc4018c2747c2365fdab"), looks := true }, kinds := [], alts := [], laidByText := true, laidKinds := [.data, .data, .data, .data, .sentinel, .sentinel, .sentinel, .pinned], laidTests := true, laidLooks := .later }
def FnExactReadGreyUptoCardSaid : Prop := Claim7.holds Tryd.pinned (.plain (OpenSpec.upto fnExactReadGreySpec)) fnExactReadGreyUptoCard

/-- THE SECOND FORM's CARD OF 'laws.FnExactCutPeaks'. -/
def fnExactCutPeaksUptoCard : Claim7 := { stood := { row := fnExactCutPeaksUptoRow, standIns := [], harness := (true, "48604af4f5b29f9c295cec23389beb6628f439db794bbc4018c2747c2365fdab"), looks := true }, kinds := [], alts := [], laidByText := true, laidKinds := [.sentinel, .data], laidTests := true, laidLooks := .later }
def FnExactCutPeaksUptoCardSaid : Prop := Claim7.holds Tryd.pinned (.plain (OpenSpec.upto fnExactCutPeaksSpec)) fnExactCutPeaksUptoCard

/-- THE SECOND FORM's CARD OF 'laws.FnExactReconstructGrey'. -/
def fnExactReconstructGreyUptoCard : Claim7 := { stood := { row := fnExactReconstructGreyUptoRow, standIns := [], harness := (true, "48604af4f5b29f9c295cec23389beb6628f439db794bbc4018c2747c2365fdab"), looks := true }, kinds := [], alts := [], laidByText := true, laidKinds := [.sentinel, .data], laidTests := true, laidLooks := .later }
def FnExactReconstructGreyUptoCardSaid : Prop := Claim7.holds Tryd.pinned (.plain (OpenSpec.upto fnExactReconstructGreySpec)) fnExactReconstructGreyUptoCard
end Rows
end Go.Proofs.YthkmfiipmhlbjaaDoor
