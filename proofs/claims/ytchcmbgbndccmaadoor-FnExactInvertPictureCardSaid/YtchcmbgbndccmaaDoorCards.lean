/-
  DERIVED. GIVEN WITH THE SEED: THE CARDS: each row of YtchcmbgbndccmaaDoorRows.lean that lists a variable, with what it lists TIED to the program's text (the seventh form; the later family's looks); each row that meets fmt, with fmt's text TOLD by the authors' own Lean function (tested against real Go, not proved from fmt's source: count such statements apart). THE CARD IS WHAT COUNTS. Prove the row's statement (the work); the ties are given (YtchcmbgbndccmaaDoorTie.lean); close each card by the builder's one call (the guide's Derived/Test/ToyasCard.lean, 'card_holds'). Laid BY PROGRAM, IN A SANDBOX (cutbox-door.mjs). By AI agents, Wed Nov 11 2026. No macro, syntax, notation, axiom, sorry.
-/
import Derived.Test.YtchcmbgbndccmaaDoorRows
import GoSem.ClaimSeven
namespace Go.Proofs.YtchcmbgbndccmaaDoor
namespace Rows

/-- THE TIED CARD OF 'laws.FnExactValidPicture'. -/
def fnExactValidPictureCard : Claim7 := { stood := { row := fnExactValidPictureRow, standIns := [], harness := (true, "e1e5cbf336accef610d0f52415cadab5ebfd7c861366f70b32e12e1fa5498e20"), looks := false }, kinds := [], alts := [], laidByText := true, laidKinds := [.sentinel], laidTests := true, laidLooks := .later }
def FnExactValidPictureCardSaid : Prop := Claim7.holds Tryd.pinned (.plain (OpenSpec.ofChange fnExactValidPictureSpec)) fnExactValidPictureCard

/-- THE TIED CARD OF 'laws.FnExactBlankPicture'. -/
def fnExactBlankPictureCard : Claim7 := { stood := { row := fnExactBlankPictureRow, standIns := [], harness := (true, "e1e5cbf336accef610d0f52415cadab5ebfd7c861366f70b32e12e1fa5498e20"), looks := false }, kinds := [], alts := [], laidByText := true, laidKinds := [.sentinel], laidTests := true, laidLooks := .later }
def FnExactBlankPictureCardSaid : Prop := Claim7.holds Tryd.pinned (.plain (OpenSpec.ofChange fnExactBlankPictureSpec)) fnExactBlankPictureCard

/-- THE TIED CARD OF 'laws.FnExactPixelAt'. -/
def fnExactPixelAtCard : Claim7 := { stood := { row := fnExactPixelAtRow, standIns := [], harness := (true, "e1e5cbf336accef610d0f52415cadab5ebfd7c861366f70b32e12e1fa5498e20"), looks := false }, kinds := [], alts := [], laidByText := true, laidKinds := [.sentinel], laidTests := true, laidLooks := .later }
def FnExactPixelAtCardSaid : Prop := Claim7.holds Tryd.pinned (.plain (OpenSpec.ofChange fnExactPixelAtSpec)) fnExactPixelAtCard

/-- THE TIED CARD OF 'laws.FnExactSetPixel'. -/
def fnExactSetPixelCard : Claim7 := { stood := { row := fnExactSetPixelRow, standIns := [], harness := (true, "e1e5cbf336accef610d0f52415cadab5ebfd7c861366f70b32e12e1fa5498e20"), looks := false }, kinds := [], alts := [], laidByText := true, laidKinds := [.sentinel, .sentinel], laidTests := true, laidLooks := .later }
def FnExactSetPixelCardSaid : Prop := Claim7.holds Tryd.pinned (.plain (OpenSpec.ofChange fnExactSetPixelSpec)) fnExactSetPixelCard

/-- THE TIED CARD OF 'laws.FnExactCountBlack'. -/
def fnExactCountBlackCard : Claim7 := { stood := { row := fnExactCountBlackRow, standIns := [], harness := (true, "e1e5cbf336accef610d0f52415cadab5ebfd7c861366f70b32e12e1fa5498e20"), looks := false }, kinds := [], alts := [], laidByText := true, laidKinds := [.sentinel], laidTests := true, laidLooks := .later }
def FnExactCountBlackCardSaid : Prop := Claim7.holds Tryd.pinned (.plain (OpenSpec.ofChange fnExactCountBlackSpec)) fnExactCountBlackCard

/-- THE TIED CARD OF 'laws.FnExactSpotsOf'. -/
def fnExactSpotsOfCard : Claim7 := { stood := { row := fnExactSpotsOfRow, standIns := [], harness := (true, "e1e5cbf336accef610d0f52415cadab5ebfd7c861366f70b32e12e1fa5498e20"), looks := false }, kinds := [], alts := [], laidByText := true, laidKinds := [.sentinel], laidTests := true, laidLooks := .later }
def FnExactSpotsOfCardSaid : Prop := Claim7.holds Tryd.pinned (.plain (OpenSpec.ofChange fnExactSpotsOfSpec)) fnExactSpotsOfCard

/-- THE TIED CARD OF 'laws.FnExactPictureFrom'. -/
def fnExactPictureFromCard : Claim7 := { stood := { row := fnExactPictureFromRow, standIns := [], harness := (true, "e1e5cbf336accef610d0f52415cadab5ebfd7c861366f70b32e12e1fa5498e20"), looks := false }, kinds := [], alts := [], laidByText := true, laidKinds := [.sentinel], laidTests := true, laidLooks := .later }
def FnExactPictureFromCardSaid : Prop := Claim7.holds Tryd.pinned (.plain (OpenSpec.ofChange fnExactPictureFromSpec)) fnExactPictureFromCard

/-- THE TIED CARD OF 'laws.FnExactInvertPicture'. -/
def fnExactInvertPictureCard : Claim7 := { stood := { row := fnExactInvertPictureRow, standIns := [], harness := (true, "e1e5cbf336accef610d0f52415cadab5ebfd7c861366f70b32e12e1fa5498e20"), looks := false }, kinds := [], alts := [], laidByText := true, laidKinds := [.sentinel, .sentinel], laidTests := true, laidLooks := .later }
def FnExactInvertPictureCardSaid : Prop := Claim7.holds Tryd.pinned (.plain (OpenSpec.ofChange fnExactInvertPictureSpec)) fnExactInvertPictureCard

/-- THE TIED CARD OF 'laws.FnExactJoinPictures'. -/
def fnExactJoinPicturesCard : Claim7 := { stood := { row := fnExactJoinPicturesRow, standIns := [], harness := (true, "e1e5cbf336accef610d0f52415cadab5ebfd7c861366f70b32e12e1fa5498e20"), looks := false }, kinds := [], alts := [], laidByText := true, laidKinds := [.sentinel, .sentinel], laidTests := true, laidLooks := .later }
def FnExactJoinPicturesCardSaid : Prop := Claim7.holds Tryd.pinned (.plain (OpenSpec.ofChange fnExactJoinPicturesSpec)) fnExactJoinPicturesCard

/-- THE TIED CARD OF 'laws.FnExactCropPicture'. -/
def fnExactCropPictureCard : Claim7 := { stood := { row := fnExactCropPictureRow, standIns := [], harness := (true, "e1e5cbf336accef610d0f52415cadab5ebfd7c861366f70b32e12e1fa5498e20"), looks := false }, kinds := [], alts := [], laidByText := true, laidKinds := [.sentinel, .sentinel], laidTests := true, laidLooks := .later }
def FnExactCropPictureCardSaid : Prop := Claim7.holds Tryd.pinned (.plain (OpenSpec.ofChange fnExactCropPictureSpec)) fnExactCropPictureCard

/-- THE TIED CARD OF 'laws.FnExactIsInside'. -/
def fnExactIsInsideCard : Claim7 := { stood := { row := fnExactIsInsideRow, standIns := [], harness := (true, "e1e5cbf336accef610d0f52415cadab5ebfd7c861366f70b32e12e1fa5498e20"), looks := false }, kinds := [], alts := [], laidByText := true, laidKinds := [.sentinel], laidTests := true, laidLooks := .later }
def FnExactIsInsideCardSaid : Prop := Claim7.holds Tryd.pinned (.plain (OpenSpec.ofChange fnExactIsInsideSpec)) fnExactIsInsideCard

/-- THE TIED CARD OF 'laws.FnExactPictureText'. -/
def fnExactPictureTextCard : Claim7 := { stood := { row := fnExactPictureTextRow, standIns := [], harness := (true, "e1e5cbf336accef610d0f52415cadab5ebfd7c861366f70b32e12e1fa5498e20"), looks := false }, kinds := [], alts := [], laidByText := true, laidKinds := [.sentinel, .sentinel], laidTests := true, laidLooks := .later }
def FnExactPictureTextCardSaid : Prop := Claim7.holds Tryd.pinned (.plain (OpenSpec.ofChange fnExactPictureTextSpec)) fnExactPictureTextCard

/-- THE SECOND FORM's CARD OF 'laws.FnExactValidPicture'. -/
def fnExactValidPictureUptoCard : Claim7 := { stood := { row := fnExactValidPictureUptoRow, standIns := [], harness := (true, "e1e5cbf336accef610d0f52415cadab5ebfd7c861366f70b32e12e1fa5498e20"), looks := false }, kinds := [], alts := [], laidByText := true, laidKinds := [.sentinel], laidTests := true, laidLooks := .later }
def FnExactValidPictureUptoCardSaid : Prop := Claim7.holds Tryd.pinned (.plain (OpenSpec.upto fnExactValidPictureSpec)) fnExactValidPictureUptoCard

/-- THE SECOND FORM's CARD OF 'laws.FnExactBlankPicture'. -/
def fnExactBlankPictureUptoCard : Claim7 := { stood := { row := fnExactBlankPictureUptoRow, standIns := [], harness := (true, "e1e5cbf336accef610d0f52415cadab5ebfd7c861366f70b32e12e1fa5498e20"), looks := false }, kinds := [], alts := [], laidByText := true, laidKinds := [.sentinel], laidTests := true, laidLooks := .later }
def FnExactBlankPictureUptoCardSaid : Prop := Claim7.holds Tryd.pinned (.plain (OpenSpec.upto fnExactBlankPictureSpec)) fnExactBlankPictureUptoCard

/-- THE SECOND FORM's CARD OF 'laws.FnExactPixelAt'. -/
def fnExactPixelAtUptoCard : Claim7 := { stood := { row := fnExactPixelAtUptoRow, standIns := [], harness := (true, "e1e5cbf336accef610d0f52415cadab5ebfd7c861366f70b32e12e1fa5498e20"), looks := false }, kinds := [], alts := [], laidByText := true, laidKinds := [.sentinel], laidTests := true, laidLooks := .later }
def FnExactPixelAtUptoCardSaid : Prop := Claim7.holds Tryd.pinned (.plain (OpenSpec.upto fnExactPixelAtSpec)) fnExactPixelAtUptoCard

/-- THE SECOND FORM's CARD OF 'laws.FnExactSetPixel'. -/
def fnExactSetPixelUptoCard : Claim7 := { stood := { row := fnExactSetPixelUptoRow, standIns := [], harness := (true, "e1e5cbf336accef610d0f52415cadab5ebfd7c861366f70b32e12e1fa5498e20"), looks := false }, kinds := [], alts := [], laidByText := true, laidKinds := [.sentinel, .sentinel], laidTests := true, laidLooks := .later }
def FnExactSetPixelUptoCardSaid : Prop := Claim7.holds Tryd.pinned (.plain (OpenSpec.upto fnExactSetPixelSpec)) fnExactSetPixelUptoCard

/-- THE SECOND FORM's CARD OF 'laws.FnExactCountBlack'. -/
def fnExactCountBlackUptoCard : Claim7 := { stood := { row := fnExactCountBlackUptoRow, standIns := [], harness := (true, "e1e5cbf336accef610d0f52415cadab5ebfd7c861366f70b32e12e1fa5498e20"), looks := false }, kinds := [], alts := [], laidByText := true, laidKinds := [.sentinel], laidTests := true, laidLooks := .later }
def FnExactCountBlackUptoCardSaid : Prop := Claim7.holds Tryd.pinned (.plain (OpenSpec.upto fnExactCountBlackSpec)) fnExactCountBlackUptoCard

/-- THE SECOND FORM's CARD OF 'laws.FnExactSpotsOf'. -/
def fnExactSpotsOfUptoCard : Claim7 := { stood := { row := fnExactSpotsOfUptoRow, standIns := [], harness := (true, "e1e5cbf336accef610d0f52415cadab5ebfd7c861366f70b32e12e1fa5498e20"), looks := false }, kinds := [], alts := [], laidByText := true, laidKinds := [.sentinel], laidTests := true, laidLooks := .later }
def FnExactSpotsOfUptoCardSaid : Prop := Claim7.holds Tryd.pinned (.plain (OpenSpec.upto fnExactSpotsOfSpec)) fnExactSpotsOfUptoCard

/-- THE SECOND FORM's CARD OF 'laws.FnExactPictureFrom'. -/
def fnExactPictureFromUptoCard : Claim7 := { stood := { row := fnExactPictureFromUptoRow, standIns := [], harness := (true, "e1e5cbf336accef610d0f52415cadab5ebfd7c861366f70b32e12e1fa5498e20"), looks := false }, kinds := [], alts := [], laidByText := true, laidKinds := [.sentinel], laidTests := true, laidLooks := .later }
def FnExactPictureFromUptoCardSaid : Prop := Claim7.holds Tryd.pinned (.plain (OpenSpec.upto fnExactPictureFromSpec)) fnExactPictureFromUptoCard

/-- THE SECOND FORM's CARD OF 'laws.FnExactInvertPicture'. -/
def fnExactInvertPictureUptoCard : Claim7 := { stood := { row := fnExactInvertPictureUptoRow, standIns := [], harness := (true, "e1e5cbf336accef610d0f52415cadab5ebfd7c861366f70b32e12e1fa5498e20"), looks := false }, kinds := [], alts := [], laidByText := true, laidKinds := [.sentinel, .sentinel], laidTests := true, laidLooks := .later }
def FnExactInvertPictureUptoCardSaid : Prop := Claim7.holds Tryd.pinned (.plain (OpenSpec.upto fnExactInvertPictureSpec)) fnExactInvertPictureUptoCard

/-- THE SECOND FORM's CARD OF 'laws.FnExactJoinPictures'. -/
def fnExactJoinPicturesUptoCard : Claim7 := { stood := { row := fnExactJoinPicturesUptoRow, standIns := [], harness := (true, "e1e5cbf336accef610d0f52415cadab5ebfd7c861366f70b32e12e1fa5498e20"), looks := false }, kinds := [], alts := [], laidByText := true, laidKinds := [.sentinel, .sentinel], laidTests := true, laidLooks := .later }
def FnExactJoinPicturesUptoCardSaid : Prop := Claim7.holds Tryd.pinned (.plain (OpenSpec.upto fnExactJoinPicturesSpec)) fnExactJoinPicturesUptoCard

/-- THE SECOND FORM's CARD OF 'laws.FnExactCropPicture'. -/
def fnExactCropPictureUptoCard : Claim7 := { stood := { row := fnExactCropPictureUptoRow, standIns := [], harness := (true, "e1e5cbf336accef610d0f52415cadab5ebfd7c861366f70b32e12e1fa5498e20"), looks := false }, kinds := [], alts := [], laidByText := true, laidKinds := [.sentinel, .sentinel], laidTests := true, laidLooks := .later }
def FnExactCropPictureUptoCardSaid : Prop := Claim7.holds Tryd.pinned (.plain (OpenSpec.upto fnExactCropPictureSpec)) fnExactCropPictureUptoCard

/-- THE SECOND FORM's CARD OF 'laws.FnExactIsInside'. -/
def fnExactIsInsideUptoCard : Claim7 := { stood := { row := fnExactIsInsideUptoRow, standIns := [], harness := (true, "e1e5cbf336accef610d0f52415cadab5ebfd7c861366f70b32e12e1fa5498e20"), looks := false }, kinds := [], alts := [], laidByText := true, laidKinds := [.sentinel], laidTests := true, laidLooks := .later }
def FnExactIsInsideUptoCardSaid : Prop := Claim7.holds Tryd.pinned (.plain (OpenSpec.upto fnExactIsInsideSpec)) fnExactIsInsideUptoCard

/-- THE SECOND FORM's CARD OF 'laws.FnExactPictureText'. -/
def fnExactPictureTextUptoCard : Claim7 := { stood := { row := fnExactPictureTextUptoRow, standIns := [], harness := (true, "e1e5cbf336accef610d0f52415cadab5ebfd7c861366f70b32e12e1fa5498e20"), looks := false }, kinds := [], alts := [], laidByText := true, laidKinds := [.sentinel, .sentinel], laidTests := true, laidLooks := .later }
def FnExactPictureTextUptoCardSaid : Prop := Claim7.holds Tryd.pinned (.plain (OpenSpec.upto fnExactPictureTextSpec)) fnExactPictureTextUptoCard
end Rows
end Go.Proofs.YtchcmbgbndccmaaDoor
