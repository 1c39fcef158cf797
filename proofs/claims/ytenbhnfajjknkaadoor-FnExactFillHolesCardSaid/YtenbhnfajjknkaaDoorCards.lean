/-
  DERIVED. GIVEN WITH THE SEED: THE CARDS: each row of YtenbhnfajjknkaaDoorRows.lean that lists a variable, with what it lists TIED to the program's text (the seventh form; the later family's looks); each row that meets fmt, with fmt's text TOLD by the authors' own Lean function (tested against real Go, not proved from fmt's source: count such statements apart). THE CARD IS WHAT COUNTS. Prove the row's statement (the work); the ties are given (YtenbhnfajjknkaaDoorTie.lean); close each card by the builder's one call (the guide's Derived/Test/ToyasCard.lean, 'card_holds'). Laid BY PROGRAM, IN A SANDBOX (cutbox-door.mjs). By AI agents, Wed Nov 11 2026. No macro, syntax, notation, axiom, sorry.
-/
import Derived.Test.YtenbhnfajjknkaaDoorRows
import GoSem.ClaimSeven
namespace Go.Proofs.YtenbhnfajjknkaaDoor
namespace Rows

/-- THE TIED CARD OF 'laws.FnExactDilatePicture'. -/
def fnExactDilatePictureCard : Claim7 := { stood := { row := fnExactDilatePictureRow, standIns := [], harness := (true, "41455f4e9255db771d6a6dd6c5dc709de149f76a297e9e1f3c45e81d396e2fa5"), looks := false }, kinds := [], alts := [], laidByText := true, laidKinds := [.sentinel, .sentinel], laidTests := true, laidLooks := .later }
def FnExactDilatePictureCardSaid : Prop := Claim7.holds Tryd.pinned (.plain (OpenSpec.ofChange fnExactDilatePictureSpec)) fnExactDilatePictureCard

/-- THE TIED CARD OF 'laws.FnExactErodePicture'. -/
def fnExactErodePictureCard : Claim7 := { stood := { row := fnExactErodePictureRow, standIns := [], harness := (true, "41455f4e9255db771d6a6dd6c5dc709de149f76a297e9e1f3c45e81d396e2fa5"), looks := false }, kinds := [], alts := [], laidByText := true, laidKinds := [.sentinel, .sentinel], laidTests := true, laidLooks := .later }
def FnExactErodePictureCardSaid : Prop := Claim7.holds Tryd.pinned (.plain (OpenSpec.ofChange fnExactErodePictureSpec)) fnExactErodePictureCard

/-- THE TIED CARD OF 'laws.FnExactOpenPicture'. -/
def fnExactOpenPictureCard : Claim7 := { stood := { row := fnExactOpenPictureRow, standIns := [], harness := (true, "41455f4e9255db771d6a6dd6c5dc709de149f76a297e9e1f3c45e81d396e2fa5"), looks := false }, kinds := [], alts := [], laidByText := true, laidKinds := [.sentinel, .sentinel], laidTests := true, laidLooks := .later }
def FnExactOpenPictureCardSaid : Prop := Claim7.holds Tryd.pinned (.plain (OpenSpec.ofChange fnExactOpenPictureSpec)) fnExactOpenPictureCard

/-- THE TIED CARD OF 'laws.FnExactClosePicture'. -/
def fnExactClosePictureCard : Claim7 := { stood := { row := fnExactClosePictureRow, standIns := [], harness := (true, "41455f4e9255db771d6a6dd6c5dc709de149f76a297e9e1f3c45e81d396e2fa5"), looks := false }, kinds := [], alts := [], laidByText := true, laidKinds := [.sentinel, .sentinel], laidTests := true, laidLooks := .later }
def FnExactClosePictureCardSaid : Prop := Claim7.holds Tryd.pinned (.plain (OpenSpec.ofChange fnExactClosePictureSpec)) fnExactClosePictureCard

/-- THE TIED CARD OF 'laws.FnExactHitOrMiss'. -/
def fnExactHitOrMissCard : Claim7 := { stood := { row := fnExactHitOrMissRow, standIns := [], harness := (true, "41455f4e9255db771d6a6dd6c5dc709de149f76a297e9e1f3c45e81d396e2fa5"), looks := false }, kinds := [], alts := [], laidByText := true, laidKinds := [.sentinel, .sentinel], laidTests := true, laidLooks := .later }
def FnExactHitOrMissCardSaid : Prop := Claim7.holds Tryd.pinned (.plain (OpenSpec.ofChange fnExactHitOrMissSpec)) fnExactHitOrMissCard

/-- THE TIED CARD OF 'laws.FnExactSizesOf'. -/
def fnExactSizesOfCard : Claim7 := { stood := { row := fnExactSizesOfRow, standIns := [], harness := (true, "41455f4e9255db771d6a6dd6c5dc709de149f76a297e9e1f3c45e81d396e2fa5"), looks := false }, kinds := [], alts := [], laidByText := true, laidKinds := [.sentinel, .sentinel], laidTests := true, laidLooks := .later }
def FnExactSizesOfCardSaid : Prop := Claim7.holds Tryd.pinned (.plain (OpenSpec.ofChange fnExactSizesOfSpec)) fnExactSizesOfCard

/-- THE TIED CARD OF 'laws.FnExactReconstructPicture'. -/
def fnExactReconstructPictureCard : Claim7 := { stood := { row := fnExactReconstructPictureRow, standIns := [], harness := (true, "41455f4e9255db771d6a6dd6c5dc709de149f76a297e9e1f3c45e81d396e2fa5"), looks := false }, kinds := [], alts := [], laidByText := true, laidKinds := [.sentinel, .sentinel], laidTests := true, laidLooks := .later }
def FnExactReconstructPictureCardSaid : Prop := Claim7.holds Tryd.pinned (.plain (OpenSpec.ofChange fnExactReconstructPictureSpec)) fnExactReconstructPictureCard

/-- THE TIED CARD OF 'laws.FnExactFillHoles'. -/
def fnExactFillHolesCard : Claim7 := { stood := { row := fnExactFillHolesRow, standIns := [], harness := (true, "41455f4e9255db771d6a6dd6c5dc709de149f76a297e9e1f3c45e81d396e2fa5"), looks := false }, kinds := [], alts := [], laidByText := true, laidKinds := [.sentinel, .sentinel], laidTests := true, laidLooks := .later }
def FnExactFillHolesCardSaid : Prop := Claim7.holds Tryd.pinned (.plain (OpenSpec.ofChange fnExactFillHolesSpec)) fnExactFillHolesCard

/-- THE SECOND FORM's CARD OF 'laws.FnExactDilatePicture'. -/
def fnExactDilatePictureUptoCard : Claim7 := { stood := { row := fnExactDilatePictureUptoRow, standIns := [], harness := (true, "41455f4e9255db771d6a6dd6c5dc709de149f76a297e9e1f3c45e81d396e2fa5"), looks := false }, kinds := [], alts := [], laidByText := true, laidKinds := [.sentinel, .sentinel], laidTests := true, laidLooks := .later }
def FnExactDilatePictureUptoCardSaid : Prop := Claim7.holds Tryd.pinned (.plain (OpenSpec.upto fnExactDilatePictureSpec)) fnExactDilatePictureUptoCard

/-- THE SECOND FORM's CARD OF 'laws.FnExactErodePicture'. -/
def fnExactErodePictureUptoCard : Claim7 := { stood := { row := fnExactErodePictureUptoRow, standIns := [], harness := (true, "41455f4e9255db771d6a6dd6c5dc709de149f76a297e9e1f3c45e81d396e2fa5"), looks := false }, kinds := [], alts := [], laidByText := true, laidKinds := [.sentinel, .sentinel], laidTests := true, laidLooks := .later }
def FnExactErodePictureUptoCardSaid : Prop := Claim7.holds Tryd.pinned (.plain (OpenSpec.upto fnExactErodePictureSpec)) fnExactErodePictureUptoCard

/-- THE SECOND FORM's CARD OF 'laws.FnExactOpenPicture'. -/
def fnExactOpenPictureUptoCard : Claim7 := { stood := { row := fnExactOpenPictureUptoRow, standIns := [], harness := (true, "41455f4e9255db771d6a6dd6c5dc709de149f76a297e9e1f3c45e81d396e2fa5"), looks := false }, kinds := [], alts := [], laidByText := true, laidKinds := [.sentinel, .sentinel], laidTests := true, laidLooks := .later }
def FnExactOpenPictureUptoCardSaid : Prop := Claim7.holds Tryd.pinned (.plain (OpenSpec.upto fnExactOpenPictureSpec)) fnExactOpenPictureUptoCard

/-- THE SECOND FORM's CARD OF 'laws.FnExactClosePicture'. -/
def fnExactClosePictureUptoCard : Claim7 := { stood := { row := fnExactClosePictureUptoRow, standIns := [], harness := (true, "41455f4e9255db771d6a6dd6c5dc709de149f76a297e9e1f3c45e81d396e2fa5"), looks := false }, kinds := [], alts := [], laidByText := true, laidKinds := [.sentinel, .sentinel], laidTests := true, laidLooks := .later }
def FnExactClosePictureUptoCardSaid : Prop := Claim7.holds Tryd.pinned (.plain (OpenSpec.upto fnExactClosePictureSpec)) fnExactClosePictureUptoCard

/-- THE SECOND FORM's CARD OF 'laws.FnExactHitOrMiss'. -/
def fnExactHitOrMissUptoCard : Claim7 := { stood := { row := fnExactHitOrMissUptoRow, standIns := [], harness := (true, "41455f4e9255db771d6a6dd6c5dc709de149f76a297e9e1f3c45e81d396e2fa5"), looks := false }, kinds := [], alts := [], laidByText := true, laidKinds := [.sentinel, .sentinel], laidTests := true, laidLooks := .later }
def FnExactHitOrMissUptoCardSaid : Prop := Claim7.holds Tryd.pinned (.plain (OpenSpec.upto fnExactHitOrMissSpec)) fnExactHitOrMissUptoCard

/-- THE SECOND FORM's CARD OF 'laws.FnExactSizesOf'. -/
def fnExactSizesOfUptoCard : Claim7 := { stood := { row := fnExactSizesOfUptoRow, standIns := [], harness := (true, "41455f4e9255db771d6a6dd6c5dc709de149f76a297e9e1f3c45e81d396e2fa5"), looks := false }, kinds := [], alts := [], laidByText := true, laidKinds := [.sentinel, .sentinel], laidTests := true, laidLooks := .later }
def FnExactSizesOfUptoCardSaid : Prop := Claim7.holds Tryd.pinned (.plain (OpenSpec.upto fnExactSizesOfSpec)) fnExactSizesOfUptoCard

/-- THE SECOND FORM's CARD OF 'laws.FnExactReconstructPicture'. -/
def fnExactReconstructPictureUptoCard : Claim7 := { stood := { row := fnExactReconstructPictureUptoRow, standIns := [], harness := (true, "41455f4e9255db771d6a6dd6c5dc709de149f76a297e9e1f3c45e81d396e2fa5"), looks := false }, kinds := [], alts := [], laidByText := true, laidKinds := [.sentinel, .sentinel], laidTests := true, laidLooks := .later }
def FnExactReconstructPictureUptoCardSaid : Prop := Claim7.holds Tryd.pinned (.plain (OpenSpec.upto fnExactReconstructPictureSpec)) fnExactReconstructPictureUptoCard

/-- THE SECOND FORM's CARD OF 'laws.FnExactFillHoles'. -/
def fnExactFillHolesUptoCard : Claim7 := { stood := { row := fnExactFillHolesUptoRow, standIns := [], harness := (true, "41455f4e9255db771d6a6dd6c5dc709de149f76a297e9e1f3c45e81d396e2fa5"), looks := false }, kinds := [], alts := [], laidByText := true, laidKinds := [.sentinel, .sentinel], laidTests := true, laidLooks := .later }
def FnExactFillHolesUptoCardSaid : Prop := Claim7.holds Tryd.pinned (.plain (OpenSpec.upto fnExactFillHolesSpec)) fnExactFillHolesUptoCard
end Rows
end Go.Proofs.YtenbhnfajjknkaaDoor
