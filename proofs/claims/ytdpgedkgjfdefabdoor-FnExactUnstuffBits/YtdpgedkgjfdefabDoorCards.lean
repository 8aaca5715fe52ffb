/-
  DERIVED. GIVEN WITH THE SEED: THE CARDS: each row of YtdpgedkgjfdefabDoorRows.lean that lists a variable, with what it lists TIED to the program's text (the seventh form; the later family's looks); each row that meets fmt, with fmt's text TOLD by the authors' own Lean function (tested against real Go, not proved from fmt's source: count such statements apart). THE CARD IS WHAT COUNTS. Prove the row's statement (the work); the ties are given (YtdpgedkgjfdefabDoorTie.lean); close each card by the builder's one call (the guide's Derived/Test/ToyasCard.lean, 'card_holds'). Laid BY PROGRAM, IN A SANDBOX (cutbox-door.mjs). By AI agents, Wed Nov 11 2026. No macro, syntax, notation, axiom, sorry.
-/
import Derived.Test.YtdpgedkgjfdefabDoorRows
import GoSem.ClaimSeven
namespace Go.Proofs.YtdpgedkgjfdefabDoor
namespace Rows

/-- THE TIED CARD OF 'laws.FnExactUnstuffBits'. -/
def fnExactUnstuffBitsCard : Claim7 := { stood := { row := fnExactUnstuffBitsRow, standIns := [], harness := (true, "867aa9c9f45cd855337f4d0ab1e89a389aa474e5dfa4ff359d0ae582dd8d04db"), looks := false }, kinds := [], alts := [], laidByText := true, laidKinds := [.data, .pinned], laidTests := true, laidLooks := .later }
def FnExactUnstuffBitsCardSaid : Prop := Claim7.holds Tryd.pinned (.plain (OpenSpec.ofChange fnExactUnstuffBitsSpec)) fnExactUnstuffBitsCard

/-- THE SECOND FORM's CARD OF 'laws.FnExactUnstuffBits'. -/
def fnExactUnstuffBitsUptoCard : Claim7 := { stood := { row := fnExactUnstuffBitsUptoRow, standIns := [], harness := (true, "867aa9c9f45cd855337f4d0ab1e89a389aa474e5dfa4ff359d0ae582dd8d04db"), looks := false }, kinds := [], alts := [], laidByText := true, laidKinds := [.data, .pinned], laidTests := true, laidLooks := .later }
def FnExactUnstuffBitsUptoCardSaid : Prop := Claim7.holds Tryd.pinned (.plain (OpenSpec.upto fnExactUnstuffBitsSpec)) fnExactUnstuffBitsUptoCard
end Rows
end Go.Proofs.YtdpgedkgjfdefabDoor
