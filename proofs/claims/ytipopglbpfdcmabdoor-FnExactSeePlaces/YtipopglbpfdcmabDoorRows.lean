/-
  NARROWER THAN 'FOR EVERY INPUT', by the rows' own cells (each row's printed sentence says how): FnExactFarOf: laid · FnExactSeePlaces: laid.
  DERIVED. THE GIVEN ROWS OF THIS SEAT. 2 by the template 'for every input the law returns true; each argument reads behind the call as it read before'; 0 by the template 'total and deterministic' (their statements: YtipopglbpfdcmabDoorTotals.lean).
  GIVEN WITH THE SEED: the statements are not yours to turn. If you find one false, say at which input.
  Laid BY PROGRAM, IN A SANDBOX (cutbox-rows.mjs): the forced cells as the released guide's own fill.sh prints them over the translation 67500324415d6308… (all of the seat's roots in one cut). By AI agents, Wed Nov 11 2026. No macro, syntax, notation, axiom, sorry.
-/
import Derived.Test.YtipopglbpfdcmabDoorChecked
import GoSem.Claim
import GoSem.ClaimJoined
import GoSem.ClaimMapViews
import Derived.JoinedTies
import Derived.KernelRfl
namespace Go.Proofs.YtipopglbpfdcmabDoor
/- THE CELL 'sum', in the pinned program and in every row, IS THE sha256 OF THE DUMP (.gsa) THAT YtipopglbpfdcmabDoorProg.lean LOADS. Nothing in Lean hashes anything: it is a label: what it is worth is what the hold of that sum in a sandbox is worth. -/
noncomputable def Tryd.pinned : Pinned := { name := "ytipopglbpfdcmabdoor", sum := "67500324415d6308ae54b035689bb5fdeb93293a456a909527ea5bf9cf5581ab", checked := Tryd.checked }
namespace Rows
def none {H : Type} : Left H := { results := [], args := [] }

/- WHAT THE LISTED PACKAGE-LEVEL VARIABLES READ AS WHEN THE CALL BEGINS. Each datum BY PROGRAM (the guide's laid-datum.mjs) off the statement by which the dump's own 'gosem.cut.vars' lays the variable. In a bare row this is a premise. The card (YtipopglbpfdcmabDoorCards.lean) ties it to the program's text. -/
def laid_loop_example_g00047_impl_wayX {H : Type} : DataW H := .agg [.lit (.int .i64 1), .lit (.int .i64 0), .lit (.int .i64 (-1)), .lit (.int .i64 0)]
def laid_loop_example_g00047_impl_wayY {H : Type} : DataW H := .agg [.lit (.int .i64 0), .lit (.int .i64 1), .lit (.int .i64 0), .lit (.int .i64 (-1))]

/-- 'laws.FnExactFarOf': WHATEVER THE INPUT: true; the input reads as it did. -/
def fnExactFarOfSpec : ChangeSpec := { name := "fnExactFarOf", vars := ["loop.example/g00047/impl.wayX", "loop.example/g00047/impl.wayY"], fn := fun _ => fun
  | [d1, d2, d3, g1, g2] => { results := [.lit (.bool true)], args := [d1, d2, d3], vars := [g1, g2] }
  | _ => none }
def fnExactFarOfRow : OpenClaim := { program := "ytipopglbpfdcmabdoor", sum := "67500324415d6308ae54b035689bb5fdeb93293a456a909527ea5bf9cf5581ab", func := "loop.example/g00047/laws.FnExactFarOf", spec := "fnExactFarOf", named := ["loop.example/g00047/impl.wayX", "loop.example/g00047/impl.wayY"], apart := false, laid := [("loop.example/g00047/impl.wayX", laid_loop_example_g00047_impl_wayX), ("loop.example/g00047/impl.wayY", laid_loop_example_g00047_impl_wayY)] }
def FnExactFarOfSaid : Prop := fnExactFarOfRow.holds Tryd.pinned (OpenSpec.ofChange fnExactFarOfSpec)

/-- ITS FALSE NEIGHBOUR: 'it returns false'. Refute it at one input. -/
def fnExactFarOfWrong : ChangeSpec := { name := "fnExactFarOf", vars := ["loop.example/g00047/impl.wayX", "loop.example/g00047/impl.wayY"], fn := fun _ => fun
  | [d1, d2, d3, g1, g2] => { results := [.lit (.bool false)], args := [d1, d2, d3], vars := [g1, g2] }
  | _ => none }
def FnExactFarOfWrongFalsely : Prop := fnExactFarOfRow.holds Tryd.pinned (OpenSpec.ofChange fnExactFarOfWrong)

/-- 'laws.FnExactSeePlaces': WHATEVER THE INPUT: true; the input reads as it did. -/
def fnExactSeePlacesSpec : ChangeSpec := { name := "fnExactSeePlaces", vars := ["loop.example/g00047/impl.wayX", "loop.example/g00047/impl.wayY"], fn := fun _ => fun
  | [d1, d2, d3, d4, g1, g2] => { results := [.lit (.bool true)], args := [d1, d2, d3, d4], vars := [g1, g2] }
  | _ => none }
def fnExactSeePlacesRow : OpenClaim := { program := "ytipopglbpfdcmabdoor", sum := "67500324415d6308ae54b035689bb5fdeb93293a456a909527ea5bf9cf5581ab", func := "loop.example/g00047/laws.FnExactSeePlaces", spec := "fnExactSeePlaces", named := ["loop.example/g00047/impl.wayX", "loop.example/g00047/impl.wayY"], apart := false, laid := [("loop.example/g00047/impl.wayX", laid_loop_example_g00047_impl_wayX), ("loop.example/g00047/impl.wayY", laid_loop_example_g00047_impl_wayY)] }
def FnExactSeePlacesSaid : Prop := fnExactSeePlacesRow.holds Tryd.pinned (OpenSpec.ofChange fnExactSeePlacesSpec)

/-- ITS FALSE NEIGHBOUR: 'it returns false'. Refute it at one input. -/
def fnExactSeePlacesWrong : ChangeSpec := { name := "fnExactSeePlaces", vars := ["loop.example/g00047/impl.wayX", "loop.example/g00047/impl.wayY"], fn := fun _ => fun
  | [d1, d2, d3, d4, g1, g2] => { results := [.lit (.bool false)], args := [d1, d2, d3, d4], vars := [g1, g2] }
  | _ => none }
def FnExactSeePlacesWrongFalsely : Prop := fnExactSeePlacesRow.holds Tryd.pinned (OpenSpec.ofChange fnExactSeePlacesWrong)

/- THE SECOND FORM. 'bulk': how many values and letters a reading holds, each counted each time it is reached (what is shared counts as often as it is met; a slice's spare places count too). A statement '..UptoSaid' is the law's where the arguments, and the package variables that the reading takes, are together of bulk at most 1048576: NARROWER than '..Said'. Prove '..Said' where nothing that the law and all that it calls make is longer than what came in: it says more and counts as full. Else prove '..UptoSaid'. A law counts once. -/
mutual
def uptoBulk {H : Type} : DataW H → Nat
  | .lit (.string bytes) => bytes.length + 1
  | .lit _ => 1
  | .nil => 1
  | .ptr d => uptoBulk d + 1
  | .slice elems spare => uptoBulkAll elems + uptoBulkAll spare + 1
  | .agg parts => uptoBulkAll parts + 1
  | .iface _ d => uptoBulk d + 1
  | .map entries => uptoBulkEntries entries + 1
  | .held _ => 1
def uptoBulkAll {H : Type} : List (DataW H) → Nat
  | [] => 0
  | d :: r => uptoBulk d + uptoBulkAll r
def uptoBulkEntries {H : Type} : List (Lit × DataW H) → Nat
  | [] => 0
  | x :: r => uptoBulkEntry x + uptoBulkEntries r
def uptoBulkEntry {H : Type} : Lit × DataW H → Nat
  | (.string bytes, d) => bytes.length + uptoBulk d + 1
  | (_, d) => uptoBulk d + 1
 end
def uptoSmall : (H : Type) → List (DataW H) → Bool := fun _ ds => decide (uptoBulkAll ds ≤ 1048576)
def OpenSpec.upto (s : _root_.Go.ChangeSpec) : _root_.Go.OpenSpec := { _root_.Go.OpenSpec.ofChange s with cond := some uptoSmall }

/-- 'laws.FnExactFarOf', WHERE WHAT IT READS IS OF BULK AT MOST 1048576: true; the input reads as it did. -/
def fnExactFarOfUptoRow : OpenClaim := { program := "ytipopglbpfdcmabdoor", sum := "67500324415d6308ae54b035689bb5fdeb93293a456a909527ea5bf9cf5581ab", func := "loop.example/g00047/laws.FnExactFarOf", spec := "fnExactFarOf", named := ["loop.example/g00047/impl.wayX", "loop.example/g00047/impl.wayY"], apart := false, laid := [("loop.example/g00047/impl.wayX", laid_loop_example_g00047_impl_wayX), ("loop.example/g00047/impl.wayY", laid_loop_example_g00047_impl_wayY)], narrowed := true }
def FnExactFarOfUptoSaid : Prop := fnExactFarOfUptoRow.holds Tryd.pinned (OpenSpec.upto fnExactFarOfSpec)

/-- 'laws.FnExactSeePlaces', WHERE WHAT IT READS IS OF BULK AT MOST 1048576: true; the input reads as it did. -/
def fnExactSeePlacesUptoRow : OpenClaim := { program := "ytipopglbpfdcmabdoor", sum := "67500324415d6308ae54b035689bb5fdeb93293a456a909527ea5bf9cf5581ab", func := "loop.example/g00047/laws.FnExactSeePlaces", spec := "fnExactSeePlaces", named := ["loop.example/g00047/impl.wayX", "loop.example/g00047/impl.wayY"], apart := false, laid := [("loop.example/g00047/impl.wayX", laid_loop_example_g00047_impl_wayX), ("loop.example/g00047/impl.wayY", laid_loop_example_g00047_impl_wayY)], narrowed := true }
def FnExactSeePlacesUptoSaid : Prop := fnExactSeePlacesUptoRow.holds Tryd.pinned (OpenSpec.upto fnExactSeePlacesSpec)

end Rows
end Go.Proofs.YtipopglbpfdcmabDoor
