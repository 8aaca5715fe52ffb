/-
  DERIVED. GIVEN WITH THE SEED: THE CARDS: each row of YtmlfijapndkfhaaDoorRows.lean that lists a variable, with what it lists TIED to the program's text (the seventh form; the later family's looks); each row that meets fmt, with fmt's text TOLD by the authors' own Lean function (tested against real Go, not proved from fmt's source: count such statements apart). THE CARD IS WHAT COUNTS. Prove the row's statement (the work); the ties are given (YtmlfijapndkfhaaDoorTie.lean); close each card by the builder's one call (the guide's Derived/Test/ToyasCard.lean, 'card_holds'). Laid BY PROGRAM, IN A SANDBOX (cutbox-door.mjs). By AI agents, Wed Nov 11 2026. No macro, syntax, notation, axiom, sorry.
-/
import Derived.Test.YtmlfijapndkfhaaDoorRows
import GoSem.ClaimSeven
namespace Go.Proofs.YtmlfijapndkfhaaDoor
namespace Rows

/-- THE TIED CARD OF 'laws.FnWish'. -/
def fnWishCard : Claim7 := { stood := { row := fnWishRow, standIns := [], harness := (true, "867cf2489897b22ac94be7eea61b04cccc86a6b099fef7cd541511cd56d1511d"), looks := true }, kinds := [], alts := [], laidByText := true, laidKinds := [.data, .handle, .sentinel, .sentinel, .sentinel, .sentinel, .sentinel, .pinned], laidTests := true, laidLooks := .later }
def FnWishCardSaid : Prop := Claim7.holds Tryd.pinned (.plain (OpenSpec.ofChange fnWishSpec)) fnWishCard

/-- THE TIED CARD OF 'laws.FnExactReadWish'. -/
def fnExactReadWishCard : Claim7 := { stood := { row := fnExactReadWishRow, standIns := [], harness := (true, "867cf2489897b22ac94be7eea61b04cccc86a6b099fef7cd541511cd56d1511d"), looks := true }, kinds := [], alts := [], laidByText := true, laidKinds := [.data, .handle, .sentinel, .sentinel, .sentinel, .sentinel, .sentinel, .pinned], laidTests := true, laidLooks := .later }
def FnExactReadWishCardSaid : Prop := Claim7.holds Tryd.pinned (.plain (OpenSpec.ofChange fnExactReadWishSpec)) fnExactReadWishCard

/-- THE SECOND FORM's CARD OF 'laws.FnWish'. -/
def fnWishUptoCard : Claim7 := { stood := { row := fnWishUptoRow, standIns := [], harness := (true, "867cf2489897b22ac94be7eea61b04cccc86a6b099fef7cd541511cd56d1511d"), looks := true }, kinds := [], alts := [], laidByText := true, laidKinds := [.data, .handle, .sentinel, .sentinel, .sentinel, .sentinel, .sentinel, .pinned], laidTests := true, laidLooks := .later }
def FnWishUptoCardSaid : Prop := Claim7.holds Tryd.pinned (.plain (OpenSpec.upto fnWishSpec)) fnWishUptoCard

/-- THE SECOND FORM's CARD OF 'laws.FnExactReadWish'. -/
def fnExactReadWishUptoCard : Claim7 := { stood := { row := fnExactReadWishUptoRow, standIns := [], harness := (true, "867cf2489897b22ac94be7eea61b04cccc86a6b099fef7cd541511cd56d1511d"), looks := true }, kinds := [], alts := [], laidByText := true, laidKinds := [.data, .handle, .sentinel, .sentinel, .sentinel, .sentinel, .sentinel, .pinned], laidTests := true, laidLooks := .later }
def FnExactReadWishUptoCardSaid : Prop := Claim7.holds Tryd.pinned (.plain (OpenSpec.upto fnExactReadWishSpec)) fnExactReadWishUptoCard
end Rows
end Go.Proofs.YtmlfijapndkfhaaDoor
