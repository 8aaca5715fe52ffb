/-
  DERIVED. GIVEN WITH THE SEED: THE CARDS: each row of YtapodfkoknmhdaaDoorRows.lean that lists a variable, with what it lists TIED to the program's text (the seventh form; the later family's looks); each row that meets fmt, with fmt's text TOLD by the authors' own Lean function (tested against real Go, not proved from fmt's source: count such statements apart). THE CARD IS WHAT COUNTS. Prove the row's statement (the work); the ties are given (YtapodfkoknmhdaaDoorTie.lean); close each card by the builder's one call (the guide's Derived/Test/ToyasCard.lean, 'card_holds'). Laid BY PROGRAM, IN A SANDBOX (cutbox-door.mjs). By AI agents, Wed Nov 11 2026. No macro, syntax, notation, axiom, sorry.
-/
import Derived.Test.YtapodfkoknmhdaaDoorRows
import GoSem.ClaimSeven
namespace Go.Proofs.YtapodfkoknmhdaaDoor
namespace Rows

/-- THE TIED CARD OF 'laws.FnWish'. -/
def fnWishCard : Claim7 := { stood := { row := fnWishRow, standIns := [], harness := (true, "969950be3340f3c1d1d4e4b2c4b88b29feddee461a6cbbd486f535cd6ea7001b"), looks := true }, kinds := [], alts := [], laidByText := true, laidKinds := [.data, .handle, .sentinel, .sentinel, .sentinel, .sentinel, .sentinel, .pinned], laidTests := true, laidLooks := .later }
def FnWishCardSaid : Prop := Claim7.holds Tryd.pinned (.plain (OpenSpec.ofChange fnWishSpec)) fnWishCard

/-- THE TIED CARD OF 'laws.FnWin'. -/
def fnWinCard : Claim7 := { stood := { row := fnWinRow, standIns := [], harness := (true, "969950be3340f3c1d1d4e4b2c4b88b29feddee461a6cbbd486f535cd6ea7001b"), looks := true }, kinds := [], alts := [], laidByText := true, laidKinds := [.data, .pinned], laidTests := true, laidLooks := .later }
def FnWinCardSaid : Prop := Claim7.holds Tryd.pinned (.plain (OpenSpec.ofChange fnWinSpec)) fnWinCard

/-- THE TIED CARD OF 'laws.FnExactReadWish'. -/
def fnExactReadWishCard : Claim7 := { stood := { row := fnExactReadWishRow, standIns := [], harness := (true, "969950be3340f3c1d1d4e4b2c4b88b29feddee461a6cbbd486f535cd6ea7001b"), looks := true }, kinds := [], alts := [], laidByText := true, laidKinds := [.data, .handle, .sentinel, .sentinel, .sentinel, .sentinel, .sentinel, .pinned], laidTests := true, laidLooks := .later }
def FnExactReadWishCardSaid : Prop := Claim7.holds Tryd.pinned (.plain (OpenSpec.ofChange fnExactReadWishSpec)) fnExactReadWishCard

/-- THE TIED CARD OF 'laws.FnExactWriteWish'. -/
def fnExactWriteWishCard : Claim7 := { stood := { row := fnExactWriteWishRow, standIns := [], harness := (true, "969950be3340f3c1d1d4e4b2c4b88b29feddee461a6cbbd486f535cd6ea7001b"), looks := true }, kinds := [], alts := [], laidByText := true, laidKinds := [.data, .pinned], laidTests := true, laidLooks := .later }
def FnExactWriteWishCardSaid : Prop := Claim7.holds Tryd.pinned (.plain (OpenSpec.ofChange fnExactWriteWishSpec)) fnExactWriteWishCard

/-- THE TIED CARD OF 'laws.FnExactGoodBoard'. -/
def fnExactGoodBoardCard : Claim7 := { stood := { row := fnExactGoodBoardRow, standIns := [], harness := (true, "969950be3340f3c1d1d4e4b2c4b88b29feddee461a6cbbd486f535cd6ea7001b"), looks := true }, kinds := [], alts := [], laidByText := true, laidKinds := [.data, .pinned], laidTests := true, laidLooks := .later }
def FnExactGoodBoardCardSaid : Prop := Claim7.holds Tryd.pinned (.plain (OpenSpec.ofChange fnExactGoodBoardSpec)) fnExactGoodBoardCard

/-- THE TIED CARD OF 'laws.FnExactWinningPlaces'. -/
def fnExactWinningPlacesCard : Claim7 := { stood := { row := fnExactWinningPlacesRow, standIns := [], harness := (true, "969950be3340f3c1d1d4e4b2c4b88b29feddee461a6cbbd486f535cd6ea7001b"), looks := true }, kinds := [], alts := [], laidByText := true, laidKinds := [.data, .pinned], laidTests := true, laidLooks := .later }
def FnExactWinningPlacesCardSaid : Prop := Claim7.holds Tryd.pinned (.plain (OpenSpec.ofChange fnExactWinningPlacesSpec)) fnExactWinningPlacesCard

/-- THE SECOND FORM's CARD OF 'laws.FnWish'. -/
def fnWishUptoCard : Claim7 := { stood := { row := fnWishUptoRow, standIns := [], harness := (true, "969950be3340f3c1d1d4e4b2c4b88b29feddee461a6cbbd486f535cd6ea7001b"), looks := true }, kinds := [], alts := [], laidByText := true, laidKinds := [.data, .handle, .sentinel, .sentinel, .sentinel, .sentinel, .sentinel, .pinned], laidTests := true, laidLooks := .later }
def FnWishUptoCardSaid : Prop := Claim7.holds Tryd.pinned (.plain (OpenSpec.upto fnWishSpec)) fnWishUptoCard

/-- THE SECOND FORM's CARD OF 'laws.FnWin'. -/
def fnWinUptoCard : Claim7 := { stood := { row := fnWinUptoRow, standIns := [], harness := (true, "969950be3340f3c1d1d4e4b2c4b88b29feddee461a6cbbd486f535cd6ea7001b"), looks := true }, kinds := [], alts := [], laidByText := true, laidKinds := [.data, .pinned], laidTests := true, laidLooks := .later }
def FnWinUptoCardSaid : Prop := Claim7.holds Tryd.pinned (.plain (OpenSpec.upto fnWinSpec)) fnWinUptoCard

/-- THE SECOND FORM's CARD OF 'laws.FnExactReadWish'. -/
def fnExactReadWishUptoCard : Claim7 := { stood := { row := fnExactReadWishUptoRow, standIns := [], harness := (true, "969950be3340f3c1d1d4e4b2c4b88b29feddee461a6cbbd486f535cd6ea7001b"), looks := true }, kinds := [], alts := [], laidByText := true, laidKinds := [.data, .handle, .sentinel, .sentinel, .sentinel, .sentinel, .sentinel, .pinned], laidTests := true, laidLooks := .later }
def FnExactReadWishUptoCardSaid : Prop := Claim7.holds Tryd.pinned (.plain (OpenSpec.upto fnExactReadWishSpec)) fnExactReadWishUptoCard

/-- THE SECOND FORM's CARD OF 'laws.FnExactWriteWish'. -/
def fnExactWriteWishUptoCard : Claim7 := { stood := { row := fnExactWriteWishUptoRow, standIns := [], harness := (true, "969950be3340f3c1d1d4e4b2c4b88b29feddee461a6cbbd486f535cd6ea7001b"), looks := true }, kinds := [], alts := [], laidByText := true, laidKinds := [.data, .pinned], laidTests := true, laidLooks := .later }
def FnExactWriteWishUptoCardSaid : Prop := Claim7.holds Tryd.pinned (.plain (OpenSpec.upto fnExactWriteWishSpec)) fnExactWriteWishUptoCard

/-- THE SECOND FORM's CARD OF 'laws.FnExactGoodBoard'. -/
def fnExactGoodBoardUptoCard : Claim7 := { stood := { row := fnExactGoodBoardUptoRow, standIns := [], harness := (true, "969950be3340f3c1d1d4e4b2c4b88b29feddee461a6cbbd486f535cd6ea7001b"), looks := true }, kinds := [], alts := [], laidByText := true, laidKinds := [.data, .pinned], laidTests := true, laidLooks := .later }
def FnExactGoodBoardUptoCardSaid : Prop := Claim7.holds Tryd.pinned (.plain (OpenSpec.upto fnExactGoodBoardSpec)) fnExactGoodBoardUptoCard

/-- THE SECOND FORM's CARD OF 'laws.FnExactWinningPlaces'. -/
def fnExactWinningPlacesUptoCard : Claim7 := { stood := { row := fnExactWinningPlacesUptoRow, standIns := [], harness := (true, "969950be3340f3c1d1d4e4b2c4b88b29feddee461a6cbbd486f535cd6ea7001b"), looks := true }, kinds := [], alts := [], laidByText := true, laidKinds := [.data, .pinned], laidTests := true, laidLooks := .later }
def FnExactWinningPlacesUptoCardSaid : Prop := Claim7.holds Tryd.pinned (.plain (OpenSpec.upto fnExactWinningPlacesSpec)) fnExactWinningPlacesUptoCard
end Rows
end Go.Proofs.YtapodfkoknmhdaaDoor
