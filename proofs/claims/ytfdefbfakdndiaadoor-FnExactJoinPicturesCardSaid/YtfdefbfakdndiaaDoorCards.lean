/-
  DERIVED. GIVEN WITH THE SEED: THE CARDS: each row of YtfdefbfakdndiaaDoorRows.lean that lists a variable, with what it lists TIED to the program's text (the seventh form; the later family's looks); each row that meets fmt, with fmt's text TOLD by the authors' own Lean function (tested against real Go, not proved from fmt's source: count such statements apart). THE CARD IS WHAT COUNTS. Prove the row's statement (the work); the ties are given (YtfdefbfakdndiaaDoorTie.lean); close each card by the builder's one call (the guide's Derived/Test/ToyasCard.lean, 'card_holds'). Laid BY PROGRAM, IN A SANDBOX (cutbox-door.mjs). By AI agents, Wed Nov 11 2026. No macro, syntax, notation, axiom, sorry.
-/
import Derived.Test.YtfdefbfakdndiaaDoorRows
import GoSem.ClaimSeven
namespace Go.Proofs.YtfdefbfakdndiaaDoor
namespace Rows

/-- THE TIED CARD OF 'laws.FnExactCountBlack'. -/
def fnExactCountBlackCard : Claim7 := { stood := { row := fnExactCountBlackRow, standIns := [], harness := (true, "d00a355e2a26acdf0b5783a1417ecaf300d1dafdf881157a151b93f0735b3432"), looks := false }, kinds := [], alts := [], laidByText := true, laidKinds := [.sentinel], laidTests := true, laidLooks := .later }
def FnExactCountBlackCardSaid : Prop := Claim7.holds Tryd.pinned (.plain (OpenSpec.ofChange fnExactCountBlackSpec)) fnExactCountBlackCard

/-- THE TIED CARD OF 'laws.FnExactSpotsOf'. -/
def fnExactSpotsOfCard : Claim7 := { stood := { row := fnExactSpotsOfRow, standIns := [], harness := (true, "d00a355e2a26acdf0b5783a1417ecaf300d1dafdf881157a151b93f0735b3432"), looks := false }, kinds := [], alts := [], laidByText := true, laidKinds := [.sentinel], laidTests := true, laidLooks := .later }
def FnExactSpotsOfCardSaid : Prop := Claim7.holds Tryd.pinned (.plain (OpenSpec.ofChange fnExactSpotsOfSpec)) fnExactSpotsOfCard

/-- THE TIED CARD OF 'laws.FnExactPictureFrom'. -/
def fnExactPictureFromCard : Claim7 := { stood := { row := fnExactPictureFromRow, standIns := [], harness := (true, "d00a355e2a26acdf0b5783a1417ecaf300d1dafdf881157a151b93f0735b3432"), looks := false }, kinds := [], alts := [], laidByText := true, laidKinds := [.sentinel], laidTests := true, laidLooks := .later }
def FnExactPictureFromCardSaid : Prop := Claim7.holds Tryd.pinned (.plain (OpenSpec.ofChange fnExactPictureFromSpec)) fnExactPictureFromCard

/-- THE TIED CARD OF 'laws.FnExactJoinPictures'. -/
def fnExactJoinPicturesCard : Claim7 := { stood := { row := fnExactJoinPicturesRow, standIns := [], harness := (true, "d00a355e2a26acdf0b5783a1417ecaf300d1dafdf881157a151b93f0735b3432"), looks := false }, kinds := [], alts := [], laidByText := true, laidKinds := [.sentinel, .sentinel], laidTests := true, laidLooks := .later }
def FnExactJoinPicturesCardSaid : Prop := Claim7.holds Tryd.pinned (.plain (OpenSpec.ofChange fnExactJoinPicturesSpec)) fnExactJoinPicturesCard

/-- THE TIED CARD OF 'laws.FnExactCropPicture'. -/
def fnExactCropPictureCard : Claim7 := { stood := { row := fnExactCropPictureRow, standIns := [], harness := (true, "d00a355e2a26acdf0b5783a1417ecaf300d1dafdf881157a151b93f0735b3432"), looks := false }, kinds := [], alts := [], laidByText := true, laidKinds := [.sentinel, .sentinel], laidTests := true, laidLooks := .later }
def FnExactCropPictureCardSaid : Prop := Claim7.holds Tryd.pinned (.plain (OpenSpec.ofChange fnExactCropPictureSpec)) fnExactCropPictureCard

/-- THE TIED CARD OF 'laws.FnExactIsInside'. -/
def fnExactIsInsideCard : Claim7 := { stood := { row := fnExactIsInsideRow, standIns := [], harness := (true, "d00a355e2a26acdf0b5783a1417ecaf300d1dafdf881157a151b93f0735b3432"), looks := false }, kinds := [], alts := [], laidByText := true, laidKinds := [.sentinel], laidTests := true, laidLooks := .later }
def FnExactIsInsideCardSaid : Prop := Claim7.holds Tryd.pinned (.plain (OpenSpec.ofChange fnExactIsInsideSpec)) fnExactIsInsideCard

/-- THE TIED CARD OF 'laws.FnExactPictureText'. -/
def fnExactPictureTextCard : Claim7 := { stood := { row := fnExactPictureTextRow, standIns := [], harness := (true, "d00a355e2a26acdf0b5783a1417ecaf300d1dafdf881157a151b93f0735b3432"), looks := false }, kinds := [], alts := [], laidByText := true, laidKinds := [.sentinel, .sentinel], laidTests := true, laidLooks := .later }
def FnExactPictureTextCardSaid : Prop := Claim7.holds Tryd.pinned (.plain (OpenSpec.ofChange fnExactPictureTextSpec)) fnExactPictureTextCard

/-- THE TIED CARD OF 'laws.FnExactShiftPicture'. -/
def fnExactShiftPictureCard : Claim7 := { stood := { row := fnExactShiftPictureRow, standIns := [], harness := (true, "d00a355e2a26acdf0b5783a1417ecaf300d1dafdf881157a151b93f0735b3432"), looks := false }, kinds := [], alts := [], laidByText := true, laidKinds := [.sentinel, .sentinel], laidTests := true, laidLooks := .later }
def FnExactShiftPictureCardSaid : Prop := Claim7.holds Tryd.pinned (.plain (OpenSpec.ofChange fnExactShiftPictureSpec)) fnExactShiftPictureCard

/-- THE TIED CARD OF 'laws.FnExactTurnPicture'. -/
def fnExactTurnPictureCard : Claim7 := { stood := { row := fnExactTurnPictureRow, standIns := [], harness := (true, "d00a355e2a26acdf0b5783a1417ecaf300d1dafdf881157a151b93f0735b3432"), looks := false }, kinds := [], alts := [], laidByText := true, laidKinds := [.sentinel, .sentinel], laidTests := true, laidLooks := .later }
def FnExactTurnPictureCardSaid : Prop := Claim7.holds Tryd.pinned (.plain (OpenSpec.ofChange fnExactTurnPictureSpec)) fnExactTurnPictureCard

/-- THE TIED CARD OF 'laws.FnExactBoxOf'. -/
def fnExactBoxOfCard : Claim7 := { stood := { row := fnExactBoxOfRow, standIns := [], harness := (true, "d00a355e2a26acdf0b5783a1417ecaf300d1dafdf881157a151b93f0735b3432"), looks := false }, kinds := [], alts := [], laidByText := true, laidKinds := [.data, .sentinel], laidTests := true, laidLooks := .later }
def FnExactBoxOfCardSaid : Prop := Claim7.holds Tryd.pinned (.plain (OpenSpec.ofChange fnExactBoxOfSpec)) fnExactBoxOfCard

/-- THE SECOND FORM's CARD OF 'laws.FnExactCountBlack'. -/
def fnExactCountBlackUptoCard : Claim7 := { stood := { row := fnExactCountBlackUptoRow, standIns := [], harness := (true, "d00a355e2a26acdf0b5783a1417ecaf300d1dafdf881157a151b93f0735b3432"), looks := false }, kinds := [], alts := [], laidByText := true, laidKinds := [.sentinel], laidTests := true, laidLooks := .later }
def FnExactCountBlackUptoCardSaid : Prop := Claim7.holds Tryd.pinned (.plain (OpenSpec.upto fnExactCountBlackSpec)) fnExactCountBlackUptoCard

/-- THE SECOND FORM's CARD OF 'laws.FnExactSpotsOf'. -/
def fnExactSpotsOfUptoCard : Claim7 := { stood := { row := fnExactSpotsOfUptoRow, standIns := [], harness := (true, "d00a355e2a26acdf0b5783a1417ecaf300d1dafdf881157a151b93f0735b3432"), looks := false }, kinds := [], alts := [], laidByText := true, laidKinds := [.sentinel], laidTests := true, laidLooks := .later }
def FnExactSpotsOfUptoCardSaid : Prop := Claim7.holds Tryd.pinned (.plain (OpenSpec.upto fnExactSpotsOfSpec)) fnExactSpotsOfUptoCard

/-- THE SECOND FORM's CARD OF 'laws.FnExactPictureFrom'. -/
def fnExactPictureFromUptoCard : Claim7 := { stood := { row := fnExactPictureFromUptoRow, standIns := [], harness := (true, "d00a355e2a26acdf0b5783a1417ecaf300d1dafdf881157a151b93f0735b3432"), looks := false }, kinds := [], alts := [], laidByText := true, laidKinds := [.sentinel], laidTests := true, laidLooks := .later }
def FnExactPictureFromUptoCardSaid : Prop := Claim7.holds Tryd.pinned (.plain (OpenSpec.upto fnExactPictureFromSpec)) fnExactPictureFromUptoCard

/-- THE SECOND FORM's CARD OF 'laws.FnExactJoinPictures'. -/
def fnExactJoinPicturesUptoCard : Claim7 := { stood := { row := fnExactJoinPicturesUptoRow, standIns := [], harness := (true, "d00a355e2a26acdf0b5783a1417ecaf300d1dafdf881157a151b93f0735b3432"), looks := false }, kinds := [], alts := [], laidByText := true, laidKinds := [.sentinel, .sentinel], laidTests := true, laidLooks := .later }
def FnExactJoinPicturesUptoCardSaid : Prop := Claim7.holds Tryd.pinned (.plain (OpenSpec.upto fnExactJoinPicturesSpec)) fnExactJoinPicturesUptoCard

/-- THE SECOND FORM's CARD OF 'laws.FnExactCropPicture'. -/
def fnExactCropPictureUptoCard : Claim7 := { stood := { row := fnExactCropPictureUptoRow, standIns := [], harness := (true, "d00a355e2a26acdf0b5783a1417ecaf300d1dafdf881157a151b93f0735b3432"), looks := false }, kinds := [], alts := [], laidByText := true, laidKinds := [.sentinel, .sentinel], laidTests := true, laidLooks := .later }
def FnExactCropPictureUptoCardSaid : Prop := Claim7.holds Tryd.pinned (.plain (OpenSpec.upto fnExactCropPictureSpec)) fnExactCropPictureUptoCard

/-- THE SECOND FORM's CARD OF 'laws.FnExactIsInside'. -/
def fnExactIsInsideUptoCard : Claim7 := { stood := { row := fnExactIsInsideUptoRow, standIns := [], harness := (true, "d00a355e2a26acdf0b5783a1417ecaf300d1dafdf881157a151b93f0735b3432"), looks := false }, kinds := [], alts := [], laidByText := true, laidKinds := [.sentinel], laidTests := true, laidLooks := .later }
def FnExactIsInsideUptoCardSaid : Prop := Claim7.holds Tryd.pinned (.plain (OpenSpec.upto fnExactIsInsideSpec)) fnExactIsInsideUptoCard

/-- THE SECOND FORM's CARD OF 'laws.FnExactPictureText'. -/
def fnExactPictureTextUptoCard : Claim7 := { stood := { row := fnExactPictureTextUptoRow, standIns := [], harness := (true, "d00a355e2a26acdf0b5783a1417ecaf300d1dafdf881157a151b93f0735b3432"), looks := false }, kinds := [], alts := [], laidByText := true, laidKinds := [.sentinel, .sentinel], laidTests := true, laidLooks := .later }
def FnExactPictureTextUptoCardSaid : Prop := Claim7.holds Tryd.pinned (.plain (OpenSpec.upto fnExactPictureTextSpec)) fnExactPictureTextUptoCard

/-- THE SECOND FORM's CARD OF 'laws.FnExactShiftPicture'. -/
def fnExactShiftPictureUptoCard : Claim7 := { stood := { row := fnExactShiftPictureUptoRow, standIns := [], harness := (true, "d00a355e2a26acdf0b5783a1417ecaf300d1dafdf881157a151b93f0735b3432"), looks := false }, kinds := [], alts := [], laidByText := true, laidKinds := [.sentinel, .sentinel], laidTests := true, laidLooks := .later }
def FnExactShiftPictureUptoCardSaid : Prop := Claim7.holds Tryd.pinned (.plain (OpenSpec.upto fnExactShiftPictureSpec)) fnExactShiftPictureUptoCard

/-- THE SECOND FORM's CARD OF 'laws.FnExactTurnPicture'. -/
def fnExactTurnPictureUptoCard : Claim7 := { stood := { row := fnExactTurnPictureUptoRow, standIns := [], harness := (true, "d00a355e2a26acdf0b5783a1417ecaf300d1dafdf881157a151b93f0735b3432"), looks := false }, kinds := [], alts := [], laidByText := true, laidKinds := [.sentinel, .sentinel], laidTests := true, laidLooks := .later }
def FnExactTurnPictureUptoCardSaid : Prop := Claim7.holds Tryd.pinned (.plain (OpenSpec.upto fnExactTurnPictureSpec)) fnExactTurnPictureUptoCard

/-- THE SECOND FORM's CARD OF 'laws.FnExactBoxOf'. -/
def fnExactBoxOfUptoCard : Claim7 := { stood := { row := fnExactBoxOfUptoRow, standIns := [], harness := (true, "d00a355e2a26acdf0b5783a1417ecaf300d1dafdf881157a151b93f0735b3432"), looks := false }, kinds := [], alts := [], laidByText := true, laidKinds := [.data, .sentinel], laidTests := true, laidLooks := .later }
def FnExactBoxOfUptoCardSaid : Prop := Claim7.holds Tryd.pinned (.plain (OpenSpec.upto fnExactBoxOfSpec)) fnExactBoxOfUptoCard
end Rows
end Go.Proofs.YtfdefbfakdndiaaDoor
