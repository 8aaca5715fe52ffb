/-
  DERIVED. GIVEN WITH THE SEED: THE CARDS: each row of YtipopglbpfdcmacDoorRows.lean that lists a variable, with what it lists TIED to the program's text (the seventh form; the later family's looks); each row that meets fmt, with fmt's text TOLD by the authors' own Lean function (tested against real Go, not proved from fmt's source: count such statements apart). THE CARD IS WHAT COUNTS. Prove the row's statement (the work); the ties are given (YtipopglbpfdcmacDoorTie.lean); close each card by the builder's one call (the guide's Derived/Test/ToyasCard.lean, 'card_holds'). Laid BY PROGRAM, IN A SANDBOX (cutbox-door.mjs). By AI agents, Wed Nov 11 2026. No macro, syntax, notation, axiom, sorry.
-/
import Derived.Test.YtipopglbpfdcmacDoorRows
import GoSem.ClaimSeven
namespace Go.Proofs.YtipopglbpfdcmacDoor
namespace Rows

/-- THE TIED CARD OF 'laws.FnExactStepPlaces'. -/
def fnExactStepPlacesCard : Claim7 := { stood := { row := fnExactStepPlacesRow, standIns := [], harness := (true, "000e2893deb631ebae50594a7f8aa42aa535160f5331b62c07f4d218742fc035"), looks := false }, kinds := [], alts := [], laidByText := true, laidKinds := [.data, .data], laidTests := true, laidLooks := .later }
def FnExactStepPlacesCardSaid : Prop := Claim7.holds Tryd.pinned (.plain (OpenSpec.ofChange fnExactStepPlacesSpec)) fnExactStepPlacesCard

/-- THE SECOND FORM's CARD OF 'laws.FnExactStepPlaces'. -/
def fnExactStepPlacesUptoCard : Claim7 := { stood := { row := fnExactStepPlacesUptoRow, standIns := [], harness := (true, "000e2893deb631ebae50594a7f8aa42aa535160f5331b62c07f4d218742fc035"), looks := false }, kinds := [], alts := [], laidByText := true, laidKinds := [.data, .data], laidTests := true, laidLooks := .later }
def FnExactStepPlacesUptoCardSaid : Prop := Claim7.holds Tryd.pinned (.plain (OpenSpec.upto fnExactStepPlacesSpec)) fnExactStepPlacesUptoCard
end Rows
end Go.Proofs.YtipopglbpfdcmacDoor
