/-
  DERIVED. GIVEN WITH THE SEED: THE CARDS: each row of YtacnegfmdckpbabDoorRows.lean that lists a variable, with what it lists TIED to the program's text (the seventh form; the later family's looks); each row that meets fmt, with fmt's text TOLD by the authors' own Lean function (tested against real Go, not proved from fmt's source: count such statements apart). THE CARD IS WHAT COUNTS. Prove the row's statement (the work); the ties are given (YtacnegfmdckpbabDoorTie.lean); close each card by the builder's one call (the guide's Derived/Test/ToyasCard.lean, 'card_holds'). Laid BY PROGRAM, IN A SANDBOX (cutbox-door.mjs). By AI agents, Wed Nov 11 2026. No macro, syntax, notation, axiom, sorry.
-/
import Derived.Test.YtacnegfmdckpbabDoorRows
import GoSem.ClaimSeven
namespace Go.Proofs.YtacnegfmdckpbabDoor
namespace Rows

/-- THE TIED CARD OF 'laws.FnExactStrategy'. -/
def fnExactStrategyCard : Claim7 := { stood := { row := fnExactStrategyRow, standIns := [], harness := (true, "a2ce18fecc4a40bed61ce35aff3b11b0a046fb48d0fdc92d4ce19a60cc8349c7"), looks := false }, kinds := [], alts := [], laidByText := true, laidKinds := [.data, .pinned], laidTests := true, laidLooks := .later }
def FnExactStrategyCardSaid : Prop := Claim7.holds Tryd.pinned (.plain (OpenSpec.ofChange fnExactStrategySpec)) fnExactStrategyCard

/-- THE TIED CARD OF 'laws.FnExactPlayBoard'. -/
def fnExactPlayBoardCard : Claim7 := { stood := { row := fnExactPlayBoardRow, standIns := [], harness := (true, "a2ce18fecc4a40bed61ce35aff3b11b0a046fb48d0fdc92d4ce19a60cc8349c7"), looks := false }, kinds := [], alts := [], laidByText := true, laidKinds := [.data, .pinned], laidTests := true, laidLooks := .later }
def FnExactPlayBoardCardSaid : Prop := Claim7.holds Tryd.pinned (.plain (OpenSpec.ofChange fnExactPlayBoardSpec)) fnExactPlayBoardCard

/-- THE TIED CARD OF 'laws.FnExactWishMet'. -/
def fnExactWishMetCard : Claim7 := { stood := { row := fnExactWishMetRow, standIns := [], harness := (true, "a2ce18fecc4a40bed61ce35aff3b11b0a046fb48d0fdc92d4ce19a60cc8349c7"), looks := false }, kinds := [], alts := [], laidByText := true, laidKinds := [.data, .pinned], laidTests := true, laidLooks := .later }
def FnExactWishMetCardSaid : Prop := Claim7.holds Tryd.pinned (.plain (OpenSpec.ofChange fnExactWishMetSpec)) fnExactWishMetCard

/-- THE SECOND FORM's CARD OF 'laws.FnExactStrategy'. -/
def fnExactStrategyUptoCard : Claim7 := { stood := { row := fnExactStrategyUptoRow, standIns := [], harness := (true, "a2ce18fecc4a40bed61ce35aff3b11b0a046fb48d0fdc92d4ce19a60cc8349c7"), looks := false }, kinds := [], alts := [], laidByText := true, laidKinds := [.data, .pinned], laidTests := true, laidLooks := .later }
def FnExactStrategyUptoCardSaid : Prop := Claim7.holds Tryd.pinned (.plain (OpenSpec.upto fnExactStrategySpec)) fnExactStrategyUptoCard

/-- THE SECOND FORM's CARD OF 'laws.FnExactPlayBoard'. -/
def fnExactPlayBoardUptoCard : Claim7 := { stood := { row := fnExactPlayBoardUptoRow, standIns := [], harness := (true, "a2ce18fecc4a40bed61ce35aff3b11b0a046fb48d0fdc92d4ce19a60cc8349c7"), looks := false }, kinds := [], alts := [], laidByText := true, laidKinds := [.data, .pinned], laidTests := true, laidLooks := .later }
def FnExactPlayBoardUptoCardSaid : Prop := Claim7.holds Tryd.pinned (.plain (OpenSpec.upto fnExactPlayBoardSpec)) fnExactPlayBoardUptoCard

/-- THE SECOND FORM's CARD OF 'laws.FnExactWishMet'. -/
def fnExactWishMetUptoCard : Claim7 := { stood := { row := fnExactWishMetUptoRow, standIns := [], harness := (true, "a2ce18fecc4a40bed61ce35aff3b11b0a046fb48d0fdc92d4ce19a60cc8349c7"), looks := false }, kinds := [], alts := [], laidByText := true, laidKinds := [.data, .pinned], laidTests := true, laidLooks := .later }
def FnExactWishMetUptoCardSaid : Prop := Claim7.holds Tryd.pinned (.plain (OpenSpec.upto fnExactWishMetSpec)) fnExactWishMetUptoCard
end Rows
end Go.Proofs.YtacnegfmdckpbabDoor
