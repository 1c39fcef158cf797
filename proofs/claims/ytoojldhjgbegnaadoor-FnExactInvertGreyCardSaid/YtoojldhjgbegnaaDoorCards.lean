/-
  DERIVED. GIVEN WITH THE SEED: THE CARDS: each row of YtoojldhjgbegnaaDoorRows.lean that lists a variable, with what it lists TIED to the program's text (the seventh form; the later family's looks); each row that meets fmt, with fmt's text TOLD by the authors' own Lean function (tested against real Go, not proved from fmt's source: count such statements apart). THE CARD IS WHAT COUNTS. Prove the row's statement (the work); the ties are given (YtoojldhjgbegnaaDoorTie.lean); close each card by the builder's one call (the guide's Derived/Test/ToyasCard.lean, 'card_holds'). Laid BY PROGRAM, IN A SANDBOX (cutbox-door.mjs). By AI agents, Wed Nov 11 2026. No macro, syntax, notation, axiom, sorry.
-/
import Derived.Test.YtoojldhjgbegnaaDoorRows
import GoSem.ClaimSeven
namespace Go.Proofs.YtoojldhjgbegnaaDoor
namespace Rows

/-- THE TIED CARD OF 'laws.FnExactInvertGrey'. -/
def fnExactInvertGreyCard : Claim7 := { stood := { row := fnExactInvertGreyRow, standIns := [], harness := (true, "3471b1e2bb038cf8ee869ff582ca8dc469e35dc5e3d21df258427089fb7ddcf5"), looks := true }, kinds := [], alts := [], laidByText := true, laidKinds := [.sentinel], laidTests := true, laidLooks := .later }
def FnExactInvertGreyCardSaid : Prop := Claim7.holds Tryd.pinned (.plain (OpenSpec.ofChange fnExactInvertGreySpec)) fnExactInvertGreyCard

/-- THE TIED CARD OF 'laws.FnExactStackPictures'. -/
def fnExactStackPicturesCard : Claim7 := { stood := { row := fnExactStackPicturesRow, standIns := [], harness := (true, "3471b1e2bb038cf8ee869ff582ca8dc469e35dc5e3d21df258427089fb7ddcf5"), looks := true }, kinds := [], alts := [], laidByText := true, laidKinds := [.sentinel, .sentinel], laidTests := true, laidLooks := .later }
def FnExactStackPicturesCardSaid : Prop := Claim7.holds Tryd.pinned (.plain (OpenSpec.ofChange fnExactStackPicturesSpec)) fnExactStackPicturesCard

/-- THE TIED CARD OF 'laws.FnExactCutPeaks'. -/
def fnExactCutPeaksCard : Claim7 := { stood := { row := fnExactCutPeaksRow, standIns := [], harness := (true, "3471b1e2bb038cf8ee869ff582ca8dc469e35dc5e3d21df258427089fb7ddcf5"), looks := true }, kinds := [], alts := [], laidByText := true, laidKinds := [.sentinel, .data], laidTests := true, laidLooks := .later }
def FnExactCutPeaksCardSaid : Prop := Claim7.holds Tryd.pinned (.plain (OpenSpec.ofChange fnExactCutPeaksSpec)) fnExactCutPeaksCard

/-- THE TIED CARD OF 'laws.FnExactReconstructGrey'. -/
def fnExactReconstructGreyCard : Claim7 := { stood := { row := fnExactReconstructGreyRow, standIns := [], harness := (true, "3471b1e2bb038cf8ee869ff582ca8dc469e35dc5e3d21df258427089fb7ddcf5"), looks := true }, kinds := [], alts := [], laidByText := true, laidKinds := [.sentinel, .data], laidTests := true, laidLooks := .later }
def FnExactReconstructGreyCardSaid : Prop := Claim7.holds Tryd.pinned (.plain (OpenSpec.ofChange fnExactReconstructGreySpec)) fnExactReconstructGreyCard

/-- THE SECOND FORM's CARD OF 'laws.FnExactInvertGrey'. -/
def fnExactInvertGreyUptoCard : Claim7 := { stood := { row := fnExactInvertGreyUptoRow, standIns := [], harness := (true, "3471b1e2bb038cf8ee869ff582ca8dc469e35dc5e3d21df258427089fb7ddcf5"), looks := true }, kinds := [], alts := [], laidByText := true, laidKinds := [.sentinel], laidTests := true, laidLooks := .later }
def FnExactInvertGreyUptoCardSaid : Prop := Claim7.holds Tryd.pinned (.plain (OpenSpec.upto fnExactInvertGreySpec)) fnExactInvertGreyUptoCard

/-- THE SECOND FORM's CARD OF 'laws.FnExactStackPictures'. -/
def fnExactStackPicturesUptoCard : Claim7 := { stood := { row := fnExactStackPicturesUptoRow, standIns := [], harness := (true, "3471b1e2bb038cf8ee869ff582ca8dc469e35dc5e3d21df258427089fb7ddcf5"), looks := true }, kinds := [], alts := [], laidByText := true, laidKinds := [.sentinel, .sentinel], laidTests := true, laidLooks := .later }
def FnExactStackPicturesUptoCardSaid : Prop := Claim7.holds Tryd.pinned (.plain (OpenSpec.upto fnExactStackPicturesSpec)) fnExactStackPicturesUptoCard

/-- THE SECOND FORM's CARD OF 'laws.FnExactCutPeaks'. -/
def fnExactCutPeaksUptoCard : Claim7 := { stood := { row := fnExactCutPeaksUptoRow, standIns := [], harness := (true, "3471b1e2bb038cf8ee869ff582ca8dc469e35dc5e3d21df258427089fb7ddcf5"), looks := true }, kinds := [], alts := [], laidByText := true, laidKinds := [.sentinel, .data], laidTests := true, laidLooks := .later }
def FnExactCutPeaksUptoCardSaid : Prop := Claim7.holds Tryd.pinned (.plain (OpenSpec.upto fnExactCutPeaksSpec)) fnExactCutPeaksUptoCard

/-- THE SECOND FORM's CARD OF 'laws.FnExactReconstructGrey'. -/
def fnExactReconstructGreyUptoCard : Claim7 := { stood := { row := fnExactReconstructGreyUptoRow, standIns := [], harness := (true, "3471b1e2bb038cf8ee869ff582ca8dc469e35dc5e3d21df258427089fb7ddcf5"), looks := true }, kinds := [], alts := [], laidByText := true, laidKinds := [.sentinel, .data], laidTests := true, laidLooks := .later }
def FnExactReconstructGreyUptoCardSaid : Prop := Claim7.holds Tryd.pinned (.plain (OpenSpec.upto fnExactReconstructGreySpec)) fnExactReconstructGreyUptoCard
end Rows
end Go.Proofs.YtoojldhjgbegnaaDoor
