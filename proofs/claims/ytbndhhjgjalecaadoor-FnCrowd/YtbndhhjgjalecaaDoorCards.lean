/-
  DERIVED. GIVEN WITH THE SEED: THE CARDS: each row of YtbndhhjgjalecaaDoorRows.lean that lists a variable, with what it lists TIED to the program's text (the seventh form; the later family's looks); each row that meets fmt, with fmt's text TOLD by the authors' own Lean function (tested against real Go, not proved from fmt's source: count such statements apart). THE CARD IS WHAT COUNTS. Prove the row's statement (the work); the ties are given (YtbndhhjgjalecaaDoorTie.lean); close each card by the builder's one call (the guide's Derived/Test/ToyasCard.lean, 'card_holds'). Laid BY PROGRAM, IN A SANDBOX (cutbox-door.mjs). By AI agents, Wed Nov 11 2026. No macro, syntax, notation, axiom, sorry.
-/
import Derived.Test.YtbndhhjgjalecaaDoorRows
import GoSem.ClaimSeven
namespace Go.Proofs.YtbndhhjgjalecaaDoor
namespace Rows

/-- THE TIED CARD OF 'laws.FnCrowd'. -/
def fnCrowdCard : Claim7 := { stood := { row := fnCrowdRow, standIns := [], harness := (true, "683b4144e22b824ff5b6dd1868873019f12758f3daa4b1bb7d8967991c3f02fa"), looks := false }, kinds := [], alts := [], laidByText := true, laidKinds := [.data, .data], laidTests := true, laidLooks := .later }
def FnCrowdCardSaid : Prop := Claim7.holds Tryd.pinned (.plain (OpenSpec.ofChange fnCrowdSpec)) fnCrowdCard

/-- THE TIED CARD OF 'laws.FnExactPlanCrowd'. -/
def fnExactPlanCrowdCard : Claim7 := { stood := { row := fnExactPlanCrowdRow, standIns := [], harness := (true, "683b4144e22b824ff5b6dd1868873019f12758f3daa4b1bb7d8967991c3f02fa"), looks := false }, kinds := [], alts := [], laidByText := true, laidKinds := [.data, .data], laidTests := true, laidLooks := .later }
def FnExactPlanCrowdCardSaid : Prop := Claim7.holds Tryd.pinned (.plain (OpenSpec.ofChange fnExactPlanCrowdSpec)) fnExactPlanCrowdCard

/-- THE TIED CARD OF 'laws.FnExactGoodPaths'. -/
def fnExactGoodPathsCard : Claim7 := { stood := { row := fnExactGoodPathsRow, standIns := [], harness := (true, "683b4144e22b824ff5b6dd1868873019f12758f3daa4b1bb7d8967991c3f02fa"), looks := false }, kinds := [], alts := [], laidByText := true, laidKinds := [.data, .data], laidTests := true, laidLooks := .later }
def FnExactGoodPathsCardSaid : Prop := Claim7.holds Tryd.pinned (.plain (OpenSpec.ofChange fnExactGoodPathsSpec)) fnExactGoodPathsCard

/-- THE TIED CARD OF 'laws.FnExactAloneTicks'. -/
def fnExactAloneTicksCard : Claim7 := { stood := { row := fnExactAloneTicksRow, standIns := [], harness := (true, "683b4144e22b824ff5b6dd1868873019f12758f3daa4b1bb7d8967991c3f02fa"), looks := false }, kinds := [], alts := [], laidByText := true, laidKinds := [.data, .data], laidTests := true, laidLooks := .later }
def FnExactAloneTicksCardSaid : Prop := Claim7.holds Tryd.pinned (.plain (OpenSpec.ofChange fnExactAloneTicksSpec)) fnExactAloneTicksCard

/-- THE SECOND FORM's CARD OF 'laws.FnCrowd'. -/
def fnCrowdUptoCard : Claim7 := { stood := { row := fnCrowdUptoRow, standIns := [], harness := (true, "683b4144e22b824ff5b6dd1868873019f12758f3daa4b1bb7d8967991c3f02fa"), looks := false }, kinds := [], alts := [], laidByText := true, laidKinds := [.data, .data], laidTests := true, laidLooks := .later }
def FnCrowdUptoCardSaid : Prop := Claim7.holds Tryd.pinned (.plain (OpenSpec.upto fnCrowdSpec)) fnCrowdUptoCard

/-- THE SECOND FORM's CARD OF 'laws.FnExactPlanCrowd'. -/
def fnExactPlanCrowdUptoCard : Claim7 := { stood := { row := fnExactPlanCrowdUptoRow, standIns := [], harness := (true, "683b4144e22b824ff5b6dd1868873019f12758f3daa4b1bb7d8967991c3f02fa"), looks := false }, kinds := [], alts := [], laidByText := true, laidKinds := [.data, .data], laidTests := true, laidLooks := .later }
def FnExactPlanCrowdUptoCardSaid : Prop := Claim7.holds Tryd.pinned (.plain (OpenSpec.upto fnExactPlanCrowdSpec)) fnExactPlanCrowdUptoCard

/-- THE SECOND FORM's CARD OF 'laws.FnExactGoodPaths'. -/
def fnExactGoodPathsUptoCard : Claim7 := { stood := { row := fnExactGoodPathsUptoRow, standIns := [], harness := (true, "683b4144e22b824ff5b6dd1868873019f12758f3daa4b1bb7d8967991c3f02fa"), looks := false }, kinds := [], alts := [], laidByText := true, laidKinds := [.data, .data], laidTests := true, laidLooks := .later }
def FnExactGoodPathsUptoCardSaid : Prop := Claim7.holds Tryd.pinned (.plain (OpenSpec.upto fnExactGoodPathsSpec)) fnExactGoodPathsUptoCard

/-- THE SECOND FORM's CARD OF 'laws.FnExactAloneTicks'. -/
def fnExactAloneTicksUptoCard : Claim7 := { stood := { row := fnExactAloneTicksUptoRow, standIns := [], harness := (true, "683b4144e22b824ff5b6dd1868873019f12758f3daa4b1bb7d8967991c3f02fa"), looks := false }, kinds := [], alts := [], laidByText := true, laidKinds := [.data, .data], laidTests := true, laidLooks := .later }
def FnExactAloneTicksUptoCardSaid : Prop := Claim7.holds Tryd.pinned (.plain (OpenSpec.upto fnExactAloneTicksSpec)) fnExactAloneTicksUptoCard
end Rows
end Go.Proofs.YtbndhhjgjalecaaDoor
