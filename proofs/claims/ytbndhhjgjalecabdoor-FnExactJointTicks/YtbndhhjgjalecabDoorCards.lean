/-
  DERIVED. GIVEN WITH THE SEED: THE CARDS: each row of YtbndhhjgjalecabDoorRows.lean that lists a variable, with what it lists TIED to the program's text (the seventh form; the later family's looks); each row that meets fmt, with fmt's text TOLD by the authors' own Lean function (tested against real Go, not proved from fmt's source: count such statements apart). THE CARD IS WHAT COUNTS. Prove the row's statement (the work); the ties are given (YtbndhhjgjalecabDoorTie.lean); close each card by the builder's one call (the guide's Derived/Test/ToyasCard.lean, 'card_holds'). Laid BY PROGRAM, IN A SANDBOX (cutbox-door.mjs). By AI agents, Wed Nov 11 2026. No macro, syntax, notation, axiom, sorry.
-/
import Derived.Test.YtbndhhjgjalecabDoorRows
import GoSem.ClaimSeven
namespace Go.Proofs.YtbndhhjgjalecabDoor
namespace Rows

/-- THE TIED CARD OF 'laws.FnExactJointTicks'. -/
def fnExactJointTicksCard : Claim7 := { stood := { row := fnExactJointTicksRow, standIns := [], harness := (true, "691feea08ce970c91381291a474ac36892296c01a963868b2ef4f2cfe35303c9"), looks := false }, kinds := [], alts := [], laidByText := true, laidKinds := [.data, .data], laidTests := true, laidLooks := .later }
def FnExactJointTicksCardSaid : Prop := Claim7.holds Tryd.pinned (.plain (OpenSpec.ofChange fnExactJointTicksSpec)) fnExactJointTicksCard

/-- THE SECOND FORM's CARD OF 'laws.FnExactJointTicks'. -/
def fnExactJointTicksUptoCard : Claim7 := { stood := { row := fnExactJointTicksUptoRow, standIns := [], harness := (true, "691feea08ce970c91381291a474ac36892296c01a963868b2ef4f2cfe35303c9"), looks := false }, kinds := [], alts := [], laidByText := true, laidKinds := [.data, .data], laidTests := true, laidLooks := .later }
def FnExactJointTicksUptoCardSaid : Prop := Claim7.holds Tryd.pinned (.plain (OpenSpec.upto fnExactJointTicksSpec)) fnExactJointTicksUptoCard
end Rows
end Go.Proofs.YtbndhhjgjalecabDoor
