/-
  No cell of these rows narrows 'for every input' (looked for: loops, veiled, ifaces, maps, wideKeys, modest, calm, conditions, laid).
  DERIVED. THE GIVEN ROWS OF THIS SEAT. 4 by the template 'for every input the law returns true; each argument reads behind the call as it read before'; 0 by the template 'total and deterministic' (their statements: YtipopglbpfdcmabTotals.lean).
  GIVEN WITH THE SEED: the statements are not yours to turn. If you find one false, say at which input.
  Laid BY PROGRAM, IN A SANDBOX (cutbox-rows.mjs): the forced cells as the released guide's own fill.sh prints them over the translation 51b927195459ae47… (all of the seat's roots in one cut). By AI agents, Wed Nov 11 2026. No macro, syntax, notation, axiom, sorry.
-/
import Derived.Test.YtipopglbpfdcmabChecked
import GoSem.Claim
import GoSem.ClaimJoined
import GoSem.ClaimMapViews
import Derived.JoinedTies
import Derived.KernelRfl
namespace Go.Proofs.Ytipopglbpfdcmab
/- THE CELL 'sum', in the pinned program and in every row, IS THE sha256 OF THE DUMP (.gsa) THAT YtipopglbpfdcmabProg.lean LOADS. Nothing in Lean hashes anything: it is a label: what it is worth is what the hold of that sum in a sandbox is worth. -/
noncomputable def Try.pinned : Pinned := { name := "ytipopglbpfdcmab", sum := "51b927195459ae47d6c4aad3828a678174350ca7db3561bd8a1514434db78840", checked := Try.checked }
namespace Rows
def none {H : Type} : Left H := { results := [], args := [] }

/-- 'laws.FnExactAddRay': WHATEVER THE INPUT: true; the input reads as it did. -/
def fnExactAddRaySpec : ChangeSpec := { name := "fnExactAddRay", fn := fun _ => fun
  | [d1, d2, d3, d4, d5, d6] => { results := [.lit (.bool true)], args := [d1, d2, d3, d4, d5, d6] }
  | _ => none }
def fnExactAddRayRow : OpenClaim := { program := "ytipopglbpfdcmab", sum := "51b927195459ae47d6c4aad3828a678174350ca7db3561bd8a1514434db78840", func := "loop.example/g00047/laws.FnExactAddRay", spec := "fnExactAddRay", apart := false }
def FnExactAddRaySaid : Prop := fnExactAddRayRow.holds Try.pinned (OpenSpec.ofChange fnExactAddRaySpec)

/-- ITS FALSE NEIGHBOUR: 'it returns false'. Refute it at one input. -/
def fnExactAddRayWrong : ChangeSpec := { name := "fnExactAddRay", fn := fun _ => fun
  | [d1, d2, d3, d4, d5, d6] => { results := [.lit (.bool false)], args := [d1, d2, d3, d4, d5, d6] }
  | _ => none }
def FnExactAddRayWrongFalsely : Prop := fnExactAddRayRow.holds Try.pinned (OpenSpec.ofChange fnExactAddRayWrong)

/-- 'laws.FnExactCellsOf': WHATEVER THE INPUT: true; the input reads as it did. -/
def fnExactCellsOfSpec : ChangeSpec := { name := "fnExactCellsOf", fn := fun _ => fun
  | [d] => { results := [.lit (.bool true)], args := [d] }
  | _ => none }
def fnExactCellsOfRow : OpenClaim := { program := "ytipopglbpfdcmab", sum := "51b927195459ae47d6c4aad3828a678174350ca7db3561bd8a1514434db78840", func := "loop.example/g00047/laws.FnExactCellsOf", spec := "fnExactCellsOf", apart := false }
def FnExactCellsOfSaid : Prop := fnExactCellsOfRow.holds Try.pinned (OpenSpec.ofChange fnExactCellsOfSpec)

/-- ITS FALSE NEIGHBOUR: 'it returns false'. Refute it at one input. -/
def fnExactCellsOfWrong : ChangeSpec := { name := "fnExactCellsOf", fn := fun _ => fun
  | [d] => { results := [.lit (.bool false)], args := [d] }
  | _ => none }
def FnExactCellsOfWrongFalsely : Prop := fnExactCellsOfRow.holds Try.pinned (OpenSpec.ofChange fnExactCellsOfWrong)

/-- 'laws.FnExactGoodCells': WHATEVER THE INPUT: true; the input reads as it did. -/
def fnExactGoodCellsSpec : ChangeSpec := { name := "fnExactGoodCells", fn := fun _ => fun
  | [d] => { results := [.lit (.bool true)], args := [d] }
  | _ => none }
def fnExactGoodCellsRow : OpenClaim := { program := "ytipopglbpfdcmab", sum := "51b927195459ae47d6c4aad3828a678174350ca7db3561bd8a1514434db78840", func := "loop.example/g00047/laws.FnExactGoodCells", spec := "fnExactGoodCells", apart := false }
def FnExactGoodCellsSaid : Prop := fnExactGoodCellsRow.holds Try.pinned (OpenSpec.ofChange fnExactGoodCellsSpec)

/-- ITS FALSE NEIGHBOUR: 'it returns false'. Refute it at one input. -/
def fnExactGoodCellsWrong : ChangeSpec := { name := "fnExactGoodCells", fn := fun _ => fun
  | [d] => { results := [.lit (.bool false)], args := [d] }
  | _ => none }
def FnExactGoodCellsWrongFalsely : Prop := fnExactGoodCellsRow.holds Try.pinned (OpenSpec.ofChange fnExactGoodCellsWrong)

/-- 'laws.FnExactAllPlaces': WHATEVER THE INPUT: true; the input reads as it did. -/
def fnExactAllPlacesSpec : ChangeSpec := { name := "fnExactAllPlaces", fn := fun _ => fun
  | [d] => { results := [.lit (.bool true)], args := [d] }
  | _ => none }
def fnExactAllPlacesRow : OpenClaim := { program := "ytipopglbpfdcmab", sum := "51b927195459ae47d6c4aad3828a678174350ca7db3561bd8a1514434db78840", func := "loop.example/g00047/laws.FnExactAllPlaces", spec := "fnExactAllPlaces", apart := false }
def FnExactAllPlacesSaid : Prop := fnExactAllPlacesRow.holds Try.pinned (OpenSpec.ofChange fnExactAllPlacesSpec)

/-- ITS FALSE NEIGHBOUR: 'it returns false'. Refute it at one input. -/
def fnExactAllPlacesWrong : ChangeSpec := { name := "fnExactAllPlaces", fn := fun _ => fun
  | [d] => { results := [.lit (.bool false)], args := [d] }
  | _ => none }
def FnExactAllPlacesWrongFalsely : Prop := fnExactAllPlacesRow.holds Try.pinned (OpenSpec.ofChange fnExactAllPlacesWrong)

/- THE SECOND FORM. 'bulk': how many values and letters a reading holds, each counted each time it is reached (what is shared counts as often as it is met; a slice's spare places count too). A statement '..UptoSaid' is the law's where the arguments, and the package variables that the reading takes, are together of bulk at most 1048576: NARROWER than '..Said'. Prove '..Said' where nothing that the law and all that it calls make is longer than what came in: it says more and counts as full. Else prove '..UptoSaid'. A law counts once. -/
mutual
def uptoBulk {H : Type} : DataW H → Nat
  | .lit (.string bytes) => bytes.length + 1
  | .lit _ => 1
  | .nil => 1
  | .ptr d => uptoBulk d + 1
  | .slice elems spare => uptoBulkAll elems + uptoBulkAll spare + 1
  | .agg parts => uptoBulkAll parts + 1
  | .iface _ d => uptoBulk d + 1
  | .map entries => uptoBulkEntries entries + 1
  | .held _ => 1
def uptoBulkAll {H : Type} : List (DataW H) → Nat
  | [] => 0
  | d :: r => uptoBulk d + uptoBulkAll r
def uptoBulkEntries {H : Type} : List (Lit × DataW H) → Nat
  | [] => 0
  | x :: r => uptoBulkEntry x + uptoBulkEntries r
def uptoBulkEntry {H : Type} : Lit × DataW H → Nat
  | (.string bytes, d) => bytes.length + uptoBulk d + 1
  | (_, d) => uptoBulk d + 1
 end
def uptoSmall : (H : Type) → List (DataW H) → Bool := fun _ ds => decide (uptoBulkAll ds ≤ 1048576)
def OpenSpec.upto (s : _root_.Go.ChangeSpec) : _root_.Go.OpenSpec := { _root_.Go.OpenSpec.ofChange s with cond := some uptoSmall }

/-- 'laws.FnExactAddRay', WHERE WHAT IT READS IS OF BULK AT MOST 1048576: true; the input reads as it did. -/
def fnExactAddRayUptoRow : OpenClaim := { program := "ytipopglbpfdcmab", sum := "51b927195459ae47d6c4aad3828a678174350ca7db3561bd8a1514434db78840", func := "loop.example/g00047/laws.FnExactAddRay", spec := "fnExactAddRay", apart := false, narrowed := true }
def FnExactAddRayUptoSaid : Prop := fnExactAddRayUptoRow.holds Try.pinned (OpenSpec.upto fnExactAddRaySpec)

/-- 'laws.FnExactCellsOf', WHERE WHAT IT READS IS OF BULK AT MOST 1048576: true; the input reads as it did. -/
def fnExactCellsOfUptoRow : OpenClaim := { program := "ytipopglbpfdcmab", sum := "51b927195459ae47d6c4aad3828a678174350ca7db3561bd8a1514434db78840", func := "loop.example/g00047/laws.FnExactCellsOf", spec := "fnExactCellsOf", apart := false, narrowed := true }
def FnExactCellsOfUptoSaid : Prop := fnExactCellsOfUptoRow.holds Try.pinned (OpenSpec.upto fnExactCellsOfSpec)

/-- 'laws.FnExactGoodCells', WHERE WHAT IT READS IS OF BULK AT MOST 1048576: true; the input reads as it did. -/
def fnExactGoodCellsUptoRow : OpenClaim := { program := "ytipopglbpfdcmab", sum := "51b927195459ae47d6c4aad3828a678174350ca7db3561bd8a1514434db78840", func := "loop.example/g00047/laws.FnExactGoodCells", spec := "fnExactGoodCells", apart := false, narrowed := true }
def FnExactGoodCellsUptoSaid : Prop := fnExactGoodCellsUptoRow.holds Try.pinned (OpenSpec.upto fnExactGoodCellsSpec)

/-- 'laws.FnExactAllPlaces', WHERE WHAT IT READS IS OF BULK AT MOST 1048576: true; the input reads as it did. -/
def fnExactAllPlacesUptoRow : OpenClaim := { program := "ytipopglbpfdcmab", sum := "51b927195459ae47d6c4aad3828a678174350ca7db3561bd8a1514434db78840", func := "loop.example/g00047/laws.FnExactAllPlaces", spec := "fnExactAllPlaces", apart := false, narrowed := true }
def FnExactAllPlacesUptoSaid : Prop := fnExactAllPlacesUptoRow.holds Try.pinned (OpenSpec.upto fnExactAllPlacesSpec)

end Rows
end Go.Proofs.Ytipopglbpfdcmab
