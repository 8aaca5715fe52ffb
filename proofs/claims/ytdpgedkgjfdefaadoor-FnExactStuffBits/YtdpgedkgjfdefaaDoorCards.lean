/-
  DERIVED. GIVEN WITH THE SEED: THE CARDS: each row of YtdpgedkgjfdefaaDoorRows.lean that lists a variable, with what it lists TIED to the program's text (the seventh form; the later family's looks); each row that meets fmt, with fmt's text TOLD by the authors' own Lean function (tested against real Go, not proved from fmt's source: count such statements apart). THE CARD IS WHAT COUNTS. Prove the row's statement (the work); the ties are given (YtdpgedkgjfdefaaDoorTie.lean); close each card by the builder's one call (the guide's Derived/Test/ToyasCard.lean, 'card_holds'). Laid BY PROGRAM, IN A SANDBOX (cutbox-door.mjs). By AI agents, Wed Nov 11 2026. No macro, syntax, notation, axiom, sorry.
-/
import Derived.Test.YtdpgedkgjfdefaaDoorRows
import GoSem.ClaimSeven
namespace Go.Proofs.YtdpgedkgjfdefaaDoor
namespace Rows

/-- THE TIED CARD OF 'laws.FnExactStuffBits'. -/
def fnExactStuffBitsCard : Claim7 := { stood := { row := fnExactStuffBitsRow, standIns := [], harness := (true, "bced744f34e646889879dcf80a00274e8e671142293d633ef7529ff58f901c61"), looks := false }, kinds := [], alts := [], laidByText := true, laidKinds := [.data, .pinned], laidTests := true, laidLooks := .later }
def FnExactStuffBitsCardSaid : Prop := Claim7.holds Tryd.pinned (.plain (OpenSpec.ofChange fnExactStuffBitsSpec)) fnExactStuffBitsCard

/-- THE SECOND FORM's CARD OF 'laws.FnExactStuffBits'. -/
def fnExactStuffBitsUptoCard : Claim7 := { stood := { row := fnExactStuffBitsUptoRow, standIns := [], harness := (true, "bced744f34e646889879dcf80a00274e8e671142293d633ef7529ff58f901c61"), looks := false }, kinds := [], alts := [], laidByText := true, laidKinds := [.data, .pinned], laidTests := true, laidLooks := .later }
def FnExactStuffBitsUptoCardSaid : Prop := Claim7.holds Tryd.pinned (.plain (OpenSpec.upto fnExactStuffBitsSpec)) fnExactStuffBitsUptoCard
end Rows
end Go.Proofs.YtdpgedkgjfdefaaDoor
