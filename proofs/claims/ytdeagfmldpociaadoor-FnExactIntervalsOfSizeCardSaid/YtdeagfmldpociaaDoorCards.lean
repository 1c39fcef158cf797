/-
  DERIVED. GIVEN WITH THE SEED: THE CARDS: each row of YtdeagfmldpociaaDoorRows.lean that lists a variable, with what it lists TIED to the program's text (the seventh form; the later family's looks); each row that meets fmt, with fmt's text TOLD by the authors' own Lean function (tested against real Go, not proved from fmt's source: count such statements apart). THE CARD IS WHAT COUNTS. Prove the row's statement (the work); the ties are given (YtdeagfmldpociaaDoorTie.lean); close each card by the builder's one call (the guide's Derived/Test/ToyasCard.lean, 'card_holds'). Laid BY PROGRAM, IN A SANDBOX (cutbox-door.mjs). By AI agents, Wed Nov 11 2026. No macro, syntax, notation, axiom, sorry.
-/
import Derived.Test.YtdeagfmldpociaaDoorRows
import GoSem.ClaimSeven
namespace Go.Proofs.YtdeagfmldpociaaDoor
namespace Rows

/-- THE TIED CARD OF 'laws.FnExactIndexOf'. -/
def fnExactIndexOfCard : Claim7 := { stood := { row := fnExactIndexOfRow, standIns := [], harness := (true, "9c13fd48e6516c24ce774ff5831bbd28089e1e6d620e41f8706858985fe33ab3"), looks := false }, kinds := [], alts := [], laidByText := true, laidKinds := [.sentinel, .data], laidTests := true, laidLooks := .later }
def FnExactIndexOfCardSaid : Prop := Claim7.holds Tryd.pinned (.plain (OpenSpec.ofChange fnExactIndexOfSpec)) fnExactIndexOfCard

/-- THE TIED CARD OF 'laws.FnExactSpotAt'. -/
def fnExactSpotAtCard : Claim7 := { stood := { row := fnExactSpotAtRow, standIns := [], harness := (true, "9c13fd48e6516c24ce774ff5831bbd28089e1e6d620e41f8706858985fe33ab3"), looks := false }, kinds := [], alts := [], laidByText := true, laidKinds := [.sentinel, .data], laidTests := true, laidLooks := .later }
def FnExactSpotAtCardSaid : Prop := Claim7.holds Tryd.pinned (.plain (OpenSpec.ofChange fnExactSpotAtSpec)) fnExactSpotAtCard

/-- THE TIED CARD OF 'laws.FnExactLongestJump'. -/
def fnExactLongestJumpCard : Claim7 := { stood := { row := fnExactLongestJumpRow, standIns := [], harness := (true, "9c13fd48e6516c24ce774ff5831bbd28089e1e6d620e41f8706858985fe33ab3"), looks := false }, kinds := [], alts := [], laidByText := true, laidKinds := [.sentinel, .data], laidTests := true, laidLooks := .later }
def FnExactLongestJumpCardSaid : Prop := Claim7.holds Tryd.pinned (.plain (OpenSpec.ofChange fnExactLongestJumpSpec)) fnExactLongestJumpCard

/-- THE TIED CARD OF 'laws.FnExactNextInBox'. -/
def fnExactNextInBoxCard : Claim7 := { stood := { row := fnExactNextInBoxRow, standIns := [], harness := (true, "9c13fd48e6516c24ce774ff5831bbd28089e1e6d620e41f8706858985fe33ab3"), looks := false }, kinds := [], alts := [], laidByText := true, laidKinds := [.sentinel, .data], laidTests := true, laidLooks := .later }
def FnExactNextInBoxCardSaid : Prop := Claim7.holds Tryd.pinned (.plain (OpenSpec.ofChange fnExactNextInBoxSpec)) fnExactNextInBoxCard

/-- THE TIED CARD OF 'laws.FnExactIntervalsOfSize'. -/
def fnExactIntervalsOfSizeCard : Claim7 := { stood := { row := fnExactIntervalsOfSizeRow, standIns := [], harness := (true, "9c13fd48e6516c24ce774ff5831bbd28089e1e6d620e41f8706858985fe33ab3"), looks := false }, kinds := [], alts := [], laidByText := true, laidKinds := [.sentinel, .data], laidTests := true, laidLooks := .later }
def FnExactIntervalsOfSizeCardSaid : Prop := Claim7.holds Tryd.pinned (.plain (OpenSpec.ofChange fnExactIntervalsOfSizeSpec)) fnExactIntervalsOfSizeCard

/-- THE TIED CARD OF 'laws.FnExactIntervalsOf'. -/
def fnExactIntervalsOfCard : Claim7 := { stood := { row := fnExactIntervalsOfRow, standIns := [], harness := (true, "9c13fd48e6516c24ce774ff5831bbd28089e1e6d620e41f8706858985fe33ab3"), looks := false }, kinds := [], alts := [], laidByText := true, laidKinds := [.sentinel, .data], laidTests := true, laidLooks := .later }
def FnExactIntervalsOfCardSaid : Prop := Claim7.holds Tryd.pinned (.plain (OpenSpec.ofChange fnExactIntervalsOfSpec)) fnExactIntervalsOfCard

/-- THE TIED CARD OF 'laws.FnExactSortAlong'. -/
def fnExactSortAlongCard : Claim7 := { stood := { row := fnExactSortAlongRow, standIns := [], harness := (true, "9c13fd48e6516c24ce774ff5831bbd28089e1e6d620e41f8706858985fe33ab3"), looks := false }, kinds := [], alts := [], laidByText := true, laidKinds := [.sentinel, .data], laidTests := true, laidLooks := .later }
def FnExactSortAlongCardSaid : Prop := Claim7.holds Tryd.pinned (.plain (OpenSpec.ofChange fnExactSortAlongSpec)) fnExactSortAlongCard

/-- THE TIED CARD OF 'laws.FnExactWayAlong'. -/
def fnExactWayAlongCard : Claim7 := { stood := { row := fnExactWayAlongRow, standIns := [], harness := (true, "9c13fd48e6516c24ce774ff5831bbd28089e1e6d620e41f8706858985fe33ab3"), looks := false }, kinds := [], alts := [], laidByText := true, laidKinds := [.sentinel, .data], laidTests := true, laidLooks := .later }
def FnExactWayAlongCardSaid : Prop := Claim7.holds Tryd.pinned (.plain (OpenSpec.ofChange fnExactWayAlongSpec)) fnExactWayAlongCard

/-- THE TIED CARD OF 'laws.FnExactCloseAlong'. -/
def fnExactCloseAlongCard : Claim7 := { stood := { row := fnExactCloseAlongRow, standIns := [], harness := (true, "9c13fd48e6516c24ce774ff5831bbd28089e1e6d620e41f8706858985fe33ab3"), looks := false }, kinds := [], alts := [], laidByText := true, laidKinds := [.sentinel, .data], laidTests := true, laidLooks := .later }
def FnExactCloseAlongCardSaid : Prop := Claim7.holds Tryd.pinned (.plain (OpenSpec.ofChange fnExactCloseAlongSpec)) fnExactCloseAlongCard

/-- THE TIED CARD OF 'laws.FnExactPictureAlong'. -/
def fnExactPictureAlongCard : Claim7 := { stood := { row := fnExactPictureAlongRow, standIns := [], harness := (true, "9c13fd48e6516c24ce774ff5831bbd28089e1e6d620e41f8706858985fe33ab3"), looks := false }, kinds := [], alts := [], laidByText := true, laidKinds := [.data, .sentinel, .sentinel, .data], laidTests := true, laidLooks := .later }
def FnExactPictureAlongCardSaid : Prop := Claim7.holds Tryd.pinned (.plain (OpenSpec.ofChange fnExactPictureAlongSpec)) fnExactPictureAlongCard

/-- THE SECOND FORM's CARD OF 'laws.FnExactIndexOf'. -/
def fnExactIndexOfUptoCard : Claim7 := { stood := { row := fnExactIndexOfUptoRow, standIns := [], harness := (true, "9c13fd48e6516c24ce774ff5831bbd28089e1e6d620e41f8706858985fe33ab3"), looks := false }, kinds := [], alts := [], laidByText := true, laidKinds := [.sentinel, .data], laidTests := true, laidLooks := .later }
def FnExactIndexOfUptoCardSaid : Prop := Claim7.holds Tryd.pinned (.plain (OpenSpec.upto fnExactIndexOfSpec)) fnExactIndexOfUptoCard

/-- THE SECOND FORM's CARD OF 'laws.FnExactSpotAt'. -/
def fnExactSpotAtUptoCard : Claim7 := { stood := { row := fnExactSpotAtUptoRow, standIns := [], harness := (true, "9c13fd48e6516c24ce774ff5831bbd28089e1e6d620e41f8706858985fe33ab3"), looks := false }, kinds := [], alts := [], laidByText := true, laidKinds := [.sentinel, .data], laidTests := true, laidLooks := .later }
def FnExactSpotAtUptoCardSaid : Prop := Claim7.holds Tryd.pinned (.plain (OpenSpec.upto fnExactSpotAtSpec)) fnExactSpotAtUptoCard

/-- THE SECOND FORM's CARD OF 'laws.FnExactLongestJump'. -/
def fnExactLongestJumpUptoCard : Claim7 := { stood := { row := fnExactLongestJumpUptoRow, standIns := [], harness := (true, "9c13fd48e6516c24ce774ff5831bbd28089e1e6d620e41f8706858985fe33ab3"), looks := false }, kinds := [], alts := [], laidByText := true, laidKinds := [.sentinel, .data], laidTests := true, laidLooks := .later }
def FnExactLongestJumpUptoCardSaid : Prop := Claim7.holds Tryd.pinned (.plain (OpenSpec.upto fnExactLongestJumpSpec)) fnExactLongestJumpUptoCard

/-- THE SECOND FORM's CARD OF 'laws.FnExactNextInBox'. -/
def fnExactNextInBoxUptoCard : Claim7 := { stood := { row := fnExactNextInBoxUptoRow, standIns := [], harness := (true, "9c13fd48e6516c24ce774ff5831bbd28089e1e6d620e41f8706858985fe33ab3"), looks := false }, kinds := [], alts := [], laidByText := true, laidKinds := [.sentinel, .data], laidTests := true, laidLooks := .later }
def FnExactNextInBoxUptoCardSaid : Prop := Claim7.holds Tryd.pinned (.plain (OpenSpec.upto fnExactNextInBoxSpec)) fnExactNextInBoxUptoCard

/-- THE SECOND FORM's CARD OF 'laws.FnExactIntervalsOfSize'. -/
def fnExactIntervalsOfSizeUptoCard : Claim7 := { stood := { row := fnExactIntervalsOfSizeUptoRow, standIns := [], harness := (true, "9c13fd48e6516c24ce774ff5831bbd28089e1e6d620e41f8706858985fe33ab3"), looks := false }, kinds := [], alts := [], laidByText := true, laidKinds := [.sentinel, .data], laidTests := true, laidLooks := .later }
def FnExactIntervalsOfSizeUptoCardSaid : Prop := Claim7.holds Tryd.pinned (.plain (OpenSpec.upto fnExactIntervalsOfSizeSpec)) fnExactIntervalsOfSizeUptoCard

/-- THE SECOND FORM's CARD OF 'laws.FnExactIntervalsOf'. -/
def fnExactIntervalsOfUptoCard : Claim7 := { stood := { row := fnExactIntervalsOfUptoRow, standIns := [], harness := (true, "9c13fd48e6516c24ce774ff5831bbd28089e1e6d620e41f8706858985fe33ab3"), looks := false }, kinds := [], alts := [], laidByText := true, laidKinds := [.sentinel, .data], laidTests := true, laidLooks := .later }
def FnExactIntervalsOfUptoCardSaid : Prop := Claim7.holds Tryd.pinned (.plain (OpenSpec.upto fnExactIntervalsOfSpec)) fnExactIntervalsOfUptoCard

/-- THE SECOND FORM's CARD OF 'laws.FnExactSortAlong'. -/
def fnExactSortAlongUptoCard : Claim7 := { stood := { row := fnExactSortAlongUptoRow, standIns := [], harness := (true, "9c13fd48e6516c24ce774ff5831bbd28089e1e6d620e41f8706858985fe33ab3"), looks := false }, kinds := [], alts := [], laidByText := true, laidKinds := [.sentinel, .data], laidTests := true, laidLooks := .later }
def FnExactSortAlongUptoCardSaid : Prop := Claim7.holds Tryd.pinned (.plain (OpenSpec.upto fnExactSortAlongSpec)) fnExactSortAlongUptoCard

/-- THE SECOND FORM's CARD OF 'laws.FnExactWayAlong'. -/
def fnExactWayAlongUptoCard : Claim7 := { stood := { row := fnExactWayAlongUptoRow, standIns := [], harness := (true, "9c13fd48e6516c24ce774ff5831bbd28089e1e6d620e41f8706858985fe33ab3"), looks := false }, kinds := [], alts := [], laidByText := true, laidKinds := [.sentinel, .data], laidTests := true, laidLooks := .later }
def FnExactWayAlongUptoCardSaid : Prop := Claim7.holds Tryd.pinned (.plain (OpenSpec.upto fnExactWayAlongSpec)) fnExactWayAlongUptoCard

/-- THE SECOND FORM's CARD OF 'laws.FnExactCloseAlong'. -/
def fnExactCloseAlongUptoCard : Claim7 := { stood := { row := fnExactCloseAlongUptoRow, standIns := [], harness := (true, "9c13fd48e6516c24ce774ff5831bbd28089e1e6d620e41f8706858985fe33ab3"), looks := false }, kinds := [], alts := [], laidByText := true, laidKinds := [.sentinel, .data], laidTests := true, laidLooks := .later }
def FnExactCloseAlongUptoCardSaid : Prop := Claim7.holds Tryd.pinned (.plain (OpenSpec.upto fnExactCloseAlongSpec)) fnExactCloseAlongUptoCard

/-- THE SECOND FORM's CARD OF 'laws.FnExactPictureAlong'. -/
def fnExactPictureAlongUptoCard : Claim7 := { stood := { row := fnExactPictureAlongUptoRow, standIns := [], harness := (true, "9c13fd48e6516c24ce774ff5831bbd28089e1e6d620e41f8706858985fe33ab3"), looks := false }, kinds := [], alts := [], laidByText := true, laidKinds := [.data, .sentinel, .sentinel, .data], laidTests := true, laidLooks := .later }
def FnExactPictureAlongUptoCardSaid : Prop := Claim7.holds Tryd.pinned (.plain (OpenSpec.upto fnExactPictureAlongSpec)) fnExactPictureAlongUptoCard
end Rows
end Go.Proofs.YtdeagfmldpociaaDoor
