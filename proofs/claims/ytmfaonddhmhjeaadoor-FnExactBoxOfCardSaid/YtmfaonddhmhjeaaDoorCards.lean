/-
  DERIVED. GIVEN WITH THE SEED: THE CARDS: each row of YtmfaonddhmhjeaaDoorRows.lean that lists a variable, with what it lists TIED to the program's text (the seventh form; the later family's looks); each row that meets fmt, with fmt's text TOLD by the authors' own Lean function (tested against real Go, not proved from fmt's source: count such statements apart). THE CARD IS WHAT COUNTS. Prove the row's statement (the work); the ties are given (YtmfaonddhmhjeaaDoorTie.lean); close each card by the builder's one call (the guide's Derived/Test/ToyasCard.lean, 'card_holds'). Laid BY PROGRAM, IN A SANDBOX (cutbox-door.mjs). By AI agents, Wed Nov 11 2026. No macro, syntax, notation, axiom, sorry.
-/
import Derived.Test.YtmfaonddhmhjeaaDoorRows
import GoSem.ClaimSeven
namespace Go.Proofs.YtmfaonddhmhjeaaDoor
namespace Rows

/-- THE TIED CARD OF 'laws.FnExactPictureFrom'. -/
def fnExactPictureFromCard : Claim7 := { stood := { row := fnExactPictureFromRow, standIns := [], harness := (true, "d33e7e11b675a83ac3fb1ba754d047e420738c38edea095c5e8dabe1353ea7c2"), looks := false }, kinds := [], alts := [], laidByText := true, laidKinds := [.sentinel], laidTests := true, laidLooks := .later }
def FnExactPictureFromCardSaid : Prop := Claim7.holds Tryd.pinned (.plain (OpenSpec.ofChange fnExactPictureFromSpec)) fnExactPictureFromCard

/-- THE TIED CARD OF 'laws.FnExactCropPicture'. -/
def fnExactCropPictureCard : Claim7 := { stood := { row := fnExactCropPictureRow, standIns := [], harness := (true, "d33e7e11b675a83ac3fb1ba754d047e420738c38edea095c5e8dabe1353ea7c2"), looks := false }, kinds := [], alts := [], laidByText := true, laidKinds := [.sentinel, .sentinel], laidTests := true, laidLooks := .later }
def FnExactCropPictureCardSaid : Prop := Claim7.holds Tryd.pinned (.plain (OpenSpec.ofChange fnExactCropPictureSpec)) fnExactCropPictureCard

/-- THE TIED CARD OF 'laws.FnExactBoxOf'. -/
def fnExactBoxOfCard : Claim7 := { stood := { row := fnExactBoxOfRow, standIns := [], harness := (true, "d33e7e11b675a83ac3fb1ba754d047e420738c38edea095c5e8dabe1353ea7c2"), looks := false }, kinds := [], alts := [], laidByText := true, laidKinds := [.data, .sentinel], laidTests := true, laidLooks := .later }
def FnExactBoxOfCardSaid : Prop := Claim7.holds Tryd.pinned (.plain (OpenSpec.ofChange fnExactBoxOfSpec)) fnExactBoxOfCard

/-- THE TIED CARD OF 'laws.FnJoins'. -/
def fnJoinsCard : Claim7 := { stood := { row := fnJoinsRow, standIns := [], harness := (true, "d33e7e11b675a83ac3fb1ba754d047e420738c38edea095c5e8dabe1353ea7c2"), looks := false }, kinds := [], alts := [], laidByText := true, laidKinds := [.sentinel, .sentinel], laidTests := true, laidLooks := .later }
def FnJoinsCardSaid : Prop := Claim7.holds Tryd.pinned (.plain (OpenSpec.ofChange fnJoinsSpec)) fnJoinsCard

/-- THE SECOND FORM's CARD OF 'laws.FnExactPictureFrom'. -/
def fnExactPictureFromUptoCard : Claim7 := { stood := { row := fnExactPictureFromUptoRow, standIns := [], harness := (true, "d33e7e11b675a83ac3fb1ba754d047e420738c38edea095c5e8dabe1353ea7c2"), looks := false }, kinds := [], alts := [], laidByText := true, laidKinds := [.sentinel], laidTests := true, laidLooks := .later }
def FnExactPictureFromUptoCardSaid : Prop := Claim7.holds Tryd.pinned (.plain (OpenSpec.upto fnExactPictureFromSpec)) fnExactPictureFromUptoCard

/-- THE SECOND FORM's CARD OF 'laws.FnExactCropPicture'. -/
def fnExactCropPictureUptoCard : Claim7 := { stood := { row := fnExactCropPictureUptoRow, standIns := [], harness := (true, "d33e7e11b675a83ac3fb1ba754d047e420738c38edea095c5e8dabe1353ea7c2"), looks := false }, kinds := [], alts := [], laidByText := true, laidKinds := [.sentinel, .sentinel], laidTests := true, laidLooks := .later }
def FnExactCropPictureUptoCardSaid : Prop := Claim7.holds Tryd.pinned (.plain (OpenSpec.upto fnExactCropPictureSpec)) fnExactCropPictureUptoCard

/-- THE SECOND FORM's CARD OF 'laws.FnExactBoxOf'. -/
def fnExactBoxOfUptoCard : Claim7 := { stood := { row := fnExactBoxOfUptoRow, standIns := [], harness := (true, "d33e7e11b675a83ac3fb1ba754d047e420738c38edea095c5e8dabe1353ea7c2"), looks := false }, kinds := [], alts := [], laidByText := true, laidKinds := [.data, .sentinel], laidTests := true, laidLooks := .later }
def FnExactBoxOfUptoCardSaid : Prop := Claim7.holds Tryd.pinned (.plain (OpenSpec.upto fnExactBoxOfSpec)) fnExactBoxOfUptoCard

/-- THE SECOND FORM's CARD OF 'laws.FnJoins'. -/
def fnJoinsUptoCard : Claim7 := { stood := { row := fnJoinsUptoRow, standIns := [], harness := (true, "d33e7e11b675a83ac3fb1ba754d047e420738c38edea095c5e8dabe1353ea7c2"), looks := false }, kinds := [], alts := [], laidByText := true, laidKinds := [.sentinel, .sentinel], laidTests := true, laidLooks := .later }
def FnJoinsUptoCardSaid : Prop := Claim7.holds Tryd.pinned (.plain (OpenSpec.upto fnJoinsSpec)) fnJoinsUptoCard
end Rows
end Go.Proofs.YtmfaonddhmhjeaaDoor
