/-
  DERIVED. GIVEN WITH THE SEED: THE CARDS: each row of YtipopglbpfdcmabDoorRows.lean that lists a variable, with what it lists TIED to the program's text (the seventh form; the later family's looks); each row that meets fmt, with fmt's text TOLD by the authors' own Lean function (tested against real Go, not proved from fmt's source: count such statements apart). THE CARD IS WHAT COUNTS. Prove the row's statement (the work); the ties are given (YtipopglbpfdcmabDoorTie.lean); close each card by the builder's one call (the guide's Derived/Test/ToyasCard.lean, 'card_holds'). Laid BY PROGRAM, IN A SANDBOX (cutbox-door.mjs). By AI agents, Wed Nov 11 2026. No macro, syntax, notation, axiom, sorry.
-/
import Derived.Test.YtipopglbpfdcmabDoorRows
import GoSem.ClaimSeven
namespace Go.Proofs.YtipopglbpfdcmabDoor
namespace Rows

/-- THE TIED CARD OF 'laws.FnExactFarOf'. -/
def fnExactFarOfCard : Claim7 := { stood := { row := fnExactFarOfRow, standIns := [], harness := (true, "8ee3a04ca199643c07f5464a35d498143bf0e8d11090dae163b99584d171d933"), looks := false }, kinds := [], alts := [], laidByText := true, laidKinds := [.data, .data], laidTests := true, laidLooks := .later }
def FnExactFarOfCardSaid : Prop := Claim7.holds Tryd.pinned (.plain (OpenSpec.ofChange fnExactFarOfSpec)) fnExactFarOfCard

/-- THE TIED CARD OF 'laws.FnExactSeePlaces'. -/
def fnExactSeePlacesCard : Claim7 := { stood := { row := fnExactSeePlacesRow, standIns := [], harness := (true, "8ee3a04ca199643c07f5464a35d498143bf0e8d11090dae163b99584d171d933"), looks := false }, kinds := [], alts := [], laidByText := true, laidKinds := [.data, .data], laidTests := true, laidLooks := .later }
def FnExactSeePlacesCardSaid : Prop := Claim7.holds Tryd.pinned (.plain (OpenSpec.ofChange fnExactSeePlacesSpec)) fnExactSeePlacesCard

/-- THE SECOND FORM's CARD OF 'laws.FnExactFarOf'. -/
def fnExactFarOfUptoCard : Claim7 := { stood := { row := fnExactFarOfUptoRow, standIns := [], harness := (true, "8ee3a04ca199643c07f5464a35d498143bf0e8d11090dae163b99584d171d933"), looks := false }, kinds := [], alts := [], laidByText := true, laidKinds := [.data, .data], laidTests := true, laidLooks := .later }
def FnExactFarOfUptoCardSaid : Prop := Claim7.holds Tryd.pinned (.plain (OpenSpec.upto fnExactFarOfSpec)) fnExactFarOfUptoCard

/-- THE SECOND FORM's CARD OF 'laws.FnExactSeePlaces'. -/
def fnExactSeePlacesUptoCard : Claim7 := { stood := { row := fnExactSeePlacesUptoRow, standIns := [], harness := (true, "8ee3a04ca199643c07f5464a35d498143bf0e8d11090dae163b99584d171d933"), looks := false }, kinds := [], alts := [], laidByText := true, laidKinds := [.data, .data], laidTests := true, laidLooks := .later }
def FnExactSeePlacesUptoCardSaid : Prop := Claim7.holds Tryd.pinned (.plain (OpenSpec.upto fnExactSeePlacesSpec)) fnExactSeePlacesUptoCard
end Rows
end Go.Proofs.YtipopglbpfdcmabDoor
