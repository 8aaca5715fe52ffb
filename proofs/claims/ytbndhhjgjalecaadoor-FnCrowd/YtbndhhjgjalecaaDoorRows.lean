/-
  NARROWER THAN 'FOR EVERY INPUT', by the rows' own cells (each row's printed sentence says how): FnCrowd: laid · FnExactPlanCrowd: laid · FnExactGoodPaths: laid · FnExactAloneTicks: laid.
  DERIVED. THE GIVEN ROWS OF THIS SEAT. 4 by the template 'for every input the law returns true; each argument reads behind the call as it read before'; 0 by the template 'total and deterministic' (their statements: YtbndhhjgjalecaaDoorTotals.lean).
  GIVEN WITH THE SEED: the statements are not yours to turn. If you find one false, say at which input.
  Laid BY PROGRAM, IN A SANDBOX (cutbox-rows.mjs): the forced cells as the released guide's own fill.sh prints them over the translation e0434f1516724ef7… (all of the seat's roots in one cut). By AI agents, Wed Nov 11 2026. No macro, syntax, notation, axiom, sorry.
-/
import Derived.Test.YtbndhhjgjalecaaDoorChecked
import GoSem.Claim
import GoSem.ClaimJoined
import GoSem.ClaimMapViews
import Derived.JoinedTies
import Derived.KernelRfl
namespace Go.Proofs.YtbndhhjgjalecaaDoor
/- THE CELL 'sum', in the pinned program and in every row, IS THE sha256 OF THE DUMP (.gsa) THAT YtbndhhjgjalecaaDoorProg.lean LOADS. Nothing in Lean hashes anything: it is a label: what it is worth is what the hold of that sum in a sandbox is worth. -/
noncomputable def Tryd.pinned : Pinned := { name := "ytbndhhjgjalecaadoor", sum := "e0434f1516724ef71b22533ef77e5c531f966f1fe6708c46802a8d0c418ef3cc", checked := Tryd.checked }
namespace Rows
def none {H : Type} : Left H := { results := [], args := [] }

/- WHAT THE LISTED PACKAGE-LEVEL VARIABLES READ AS WHEN THE CALL BEGINS. Each datum BY PROGRAM (the guide's laid-datum.mjs) off the statement by which the dump's own 'gosem.cut.vars' lays the variable. In a bare row this is a premise. The card (YtbndhhjgjalecaaDoorCards.lean) ties it to the program's text. -/
def laid_loop_example_g00047_impl_wayX {H : Type} : DataW H := .agg [.lit (.int .i64 1), .lit (.int .i64 0), .lit (.int .i64 (-1)), .lit (.int .i64 0)]
def laid_loop_example_g00047_impl_wayY {H : Type} : DataW H := .agg [.lit (.int .i64 0), .lit (.int .i64 1), .lit (.int .i64 0), .lit (.int .i64 (-1))]

/-- 'laws.FnCrowd': WHATEVER THE INPUT: true; the input reads as it did. -/
def fnCrowdSpec : ChangeSpec := { name := "fnCrowd", vars := ["loop.example/g00047/impl.wayX", "loop.example/g00047/impl.wayY"], fn := fun _ => fun
  | [d, g1, g2] => { results := [.lit (.bool true)], args := [d], vars := [g1, g2] }
  | _ => none }
def fnCrowdRow : OpenClaim := { program := "ytbndhhjgjalecaadoor", sum := "e0434f1516724ef71b22533ef77e5c531f966f1fe6708c46802a8d0c418ef3cc", func := "loop.example/g00047/laws.FnCrowd", spec := "fnCrowd", unfollowed := true, recurses := true, named := ["loop.example/g00047/impl.wayX", "loop.example/g00047/impl.wayY"], plainKeys := false, apart := false, laid := [("loop.example/g00047/impl.wayX", laid_loop_example_g00047_impl_wayX), ("loop.example/g00047/impl.wayY", laid_loop_example_g00047_impl_wayY)] }
def FnCrowdSaid : Prop := fnCrowdRow.holds Tryd.pinned (OpenSpec.ofChange fnCrowdSpec)

/-- ITS FALSE NEIGHBOUR: 'it returns false'. Refute it at one input. -/
def fnCrowdWrong : ChangeSpec := { name := "fnCrowd", vars := ["loop.example/g00047/impl.wayX", "loop.example/g00047/impl.wayY"], fn := fun _ => fun
  | [d, g1, g2] => { results := [.lit (.bool false)], args := [d], vars := [g1, g2] }
  | _ => none }
def FnCrowdWrongFalsely : Prop := fnCrowdRow.holds Tryd.pinned (OpenSpec.ofChange fnCrowdWrong)

/-- 'laws.FnExactPlanCrowd': WHATEVER THE INPUT: true; the input reads as it did. -/
def fnExactPlanCrowdSpec : ChangeSpec := { name := "fnExactPlanCrowd", vars := ["loop.example/g00047/impl.wayX", "loop.example/g00047/impl.wayY"], fn := fun _ => fun
  | [d1, d2, d3, g1, g2] => { results := [.lit (.bool true)], args := [d1, d2, d3], vars := [g1, g2] }
  | _ => none }
def fnExactPlanCrowdRow : OpenClaim := { program := "ytbndhhjgjalecaadoor", sum := "e0434f1516724ef71b22533ef77e5c531f966f1fe6708c46802a8d0c418ef3cc", func := "loop.example/g00047/laws.FnExactPlanCrowd", spec := "fnExactPlanCrowd", unfollowed := true, recurses := true, named := ["loop.example/g00047/impl.wayX", "loop.example/g00047/impl.wayY"], plainKeys := false, apart := false, laid := [("loop.example/g00047/impl.wayX", laid_loop_example_g00047_impl_wayX), ("loop.example/g00047/impl.wayY", laid_loop_example_g00047_impl_wayY)] }
def FnExactPlanCrowdSaid : Prop := fnExactPlanCrowdRow.holds Tryd.pinned (OpenSpec.ofChange fnExactPlanCrowdSpec)

/-- ITS FALSE NEIGHBOUR: 'it returns false'. Refute it at one input. -/
def fnExactPlanCrowdWrong : ChangeSpec := { name := "fnExactPlanCrowd", vars := ["loop.example/g00047/impl.wayX", "loop.example/g00047/impl.wayY"], fn := fun _ => fun
  | [d1, d2, d3, g1, g2] => { results := [.lit (.bool false)], args := [d1, d2, d3], vars := [g1, g2] }
  | _ => none }
def FnExactPlanCrowdWrongFalsely : Prop := fnExactPlanCrowdRow.holds Tryd.pinned (OpenSpec.ofChange fnExactPlanCrowdWrong)

/-- 'laws.FnExactGoodPaths': WHATEVER THE INPUT: true; the input reads as it did. -/
def fnExactGoodPathsSpec : ChangeSpec := { name := "fnExactGoodPaths", vars := ["loop.example/g00047/impl.wayX", "loop.example/g00047/impl.wayY"], fn := fun _ => fun
  | [d1, d2, d3, g1, g2] => { results := [.lit (.bool true)], args := [d1, d2, d3], vars := [g1, g2] }
  | _ => none }
def fnExactGoodPathsRow : OpenClaim := { program := "ytbndhhjgjalecaadoor", sum := "e0434f1516724ef71b22533ef77e5c531f966f1fe6708c46802a8d0c418ef3cc", func := "loop.example/g00047/laws.FnExactGoodPaths", spec := "fnExactGoodPaths", unfollowed := true, recurses := true, named := ["loop.example/g00047/impl.wayX", "loop.example/g00047/impl.wayY"], plainKeys := false, apart := false, laid := [("loop.example/g00047/impl.wayX", laid_loop_example_g00047_impl_wayX), ("loop.example/g00047/impl.wayY", laid_loop_example_g00047_impl_wayY)] }
def FnExactGoodPathsSaid : Prop := fnExactGoodPathsRow.holds Tryd.pinned (OpenSpec.ofChange fnExactGoodPathsSpec)

/-- ITS FALSE NEIGHBOUR: 'it returns false'. Refute it at one input. -/
def fnExactGoodPathsWrong : ChangeSpec := { name := "fnExactGoodPaths", vars := ["loop.example/g00047/impl.wayX", "loop.example/g00047/impl.wayY"], fn := fun _ => fun
  | [d1, d2, d3, g1, g2] => { results := [.lit (.bool false)], args := [d1, d2, d3], vars := [g1, g2] }
  | _ => none }
def FnExactGoodPathsWrongFalsely : Prop := fnExactGoodPathsRow.holds Tryd.pinned (OpenSpec.ofChange fnExactGoodPathsWrong)

/-- 'laws.FnExactAloneTicks': WHATEVER THE INPUT: true; the input reads as it did. -/
def fnExactAloneTicksSpec : ChangeSpec := { name := "fnExactAloneTicks", vars := ["loop.example/g00047/impl.wayX", "loop.example/g00047/impl.wayY"], fn := fun _ => fun
  | [d1, d2, g1, g2] => { results := [.lit (.bool true)], args := [d1, d2], vars := [g1, g2] }
  | _ => none }
def fnExactAloneTicksRow : OpenClaim := { program := "ytbndhhjgjalecaadoor", sum := "e0434f1516724ef71b22533ef77e5c531f966f1fe6708c46802a8d0c418ef3cc", func := "loop.example/g00047/laws.FnExactAloneTicks", spec := "fnExactAloneTicks", unfollowed := true, recurses := true, named := ["loop.example/g00047/impl.wayX", "loop.example/g00047/impl.wayY"], plainKeys := false, apart := false, laid := [("loop.example/g00047/impl.wayX", laid_loop_example_g00047_impl_wayX), ("loop.example/g00047/impl.wayY", laid_loop_example_g00047_impl_wayY)] }
def FnExactAloneTicksSaid : Prop := fnExactAloneTicksRow.holds Tryd.pinned (OpenSpec.ofChange fnExactAloneTicksSpec)

/-- ITS FALSE NEIGHBOUR: 'it returns false'. Refute it at one input. -/
def fnExactAloneTicksWrong : ChangeSpec := { name := "fnExactAloneTicks", vars := ["loop.example/g00047/impl.wayX", "loop.example/g00047/impl.wayY"], fn := fun _ => fun
  | [d1, d2, g1, g2] => { results := [.lit (.bool false)], args := [d1, d2], vars := [g1, g2] }
  | _ => none }
def FnExactAloneTicksWrongFalsely : Prop := fnExactAloneTicksRow.holds Tryd.pinned (OpenSpec.ofChange fnExactAloneTicksWrong)

/- THE SECOND FORM. 'bulk': how many values and letters a reading holds, each counted each time it is reached (what is shared counts as often as it is met; a slice's spare places count too). A statement '..UptoSaid' is the law's where the arguments, and the package variables that the reading takes, are together of bulk at most 1048576: NARROWER than '..Said'. Prove '..Said' where nothing that the law and all that it calls make is longer than what came in: it says more and counts as full. Else prove '..UptoSaid'. A law counts once. -/
mutual
def uptoBulk {H : Type} : DataW H → Nat
  | .lit (.string bytes) => bytes.length + 1
  | .lit _ => 1
  | .nil => 1
  | .ptr d => uptoBulk d + 1
  | .slice elems spare => uptoBulkAll elems + uptoBulkAll spare + 1
  | .agg parts => uptoBulkAll parts + 1
  | .iface _ d => uptoBulk d + 1
  | .map entries => uptoBulkEntries entries + 1
  | .held _ => 1
def uptoBulkAll {H : Type} : List (DataW H) → Nat
  | [] => 0
  | d :: r => uptoBulk d + uptoBulkAll r
def uptoBulkEntries {H : Type} : List (Lit × DataW H) → Nat
  | [] => 0
  | x :: r => uptoBulkEntry x + uptoBulkEntries r
def uptoBulkEntry {H : Type} : Lit × DataW H → Nat
  | (.string bytes, d) => bytes.length + uptoBulk d + 1
  | (_, d) => uptoBulk d + 1
 end
def uptoSmall : (H : Type) → List (DataW H) → Bool := fun _ ds => decide (uptoBulkAll ds ≤ 1048576)
def OpenSpec.upto (s : _root_.Go.ChangeSpec) : _root_.Go.OpenSpec := { _root_.Go.OpenSpec.ofChange s with cond := some uptoSmall }

/-- 'laws.FnCrowd', WHERE WHAT IT READS IS OF BULK AT MOST 1048576: true; the input reads as it did. -/
def fnCrowdUptoRow : OpenClaim := { program := "ytbndhhjgjalecaadoor", sum := "e0434f1516724ef71b22533ef77e5c531f966f1fe6708c46802a8d0c418ef3cc", func := "loop.example/g00047/laws.FnCrowd", spec := "fnCrowd", unfollowed := true, recurses := true, named := ["loop.example/g00047/impl.wayX", "loop.example/g00047/impl.wayY"], plainKeys := false, apart := false, laid := [("loop.example/g00047/impl.wayX", laid_loop_example_g00047_impl_wayX), ("loop.example/g00047/impl.wayY", laid_loop_example_g00047_impl_wayY)], narrowed := true }
def FnCrowdUptoSaid : Prop := fnCrowdUptoRow.holds Tryd.pinned (OpenSpec.upto fnCrowdSpec)

/-- 'laws.FnExactPlanCrowd', WHERE WHAT IT READS IS OF BULK AT MOST 1048576: true; the input reads as it did. -/
def fnExactPlanCrowdUptoRow : OpenClaim := { program := "ytbndhhjgjalecaadoor", sum := "e0434f1516724ef71b22533ef77e5c531f966f1fe6708c46802a8d0c418ef3cc", func := "loop.example/g00047/laws.FnExactPlanCrowd", spec := "fnExactPlanCrowd", unfollowed := true, recurses := true, named := ["loop.example/g00047/impl.wayX", "loop.example/g00047/impl.wayY"], plainKeys := false, apart := false, laid := [("loop.example/g00047/impl.wayX", laid_loop_example_g00047_impl_wayX), ("loop.example/g00047/impl.wayY", laid_loop_example_g00047_impl_wayY)], narrowed := true }
def FnExactPlanCrowdUptoSaid : Prop := fnExactPlanCrowdUptoRow.holds Tryd.pinned (OpenSpec.upto fnExactPlanCrowdSpec)

/-- 'laws.FnExactGoodPaths', WHERE WHAT IT READS IS OF BULK AT MOST 1048576: true; the input reads as it did. -/
def fnExactGoodPathsUptoRow : OpenClaim := { program := "ytbndhhjgjalecaadoor", sum := "e0434f1516724ef71b22533ef77e5c531f966f1fe6708c46802a8d0c418ef3cc", func := "loop.example/g00047/laws.FnExactGoodPaths", spec := "fnExactGoodPaths", unfollowed := true, recurses := true, named := ["loop.example/g00047/impl.wayX", "loop.example/g00047/impl.wayY"], plainKeys := false, apart := false, laid := [("loop.example/g00047/impl.wayX", laid_loop_example_g00047_impl_wayX), ("loop.example/g00047/impl.wayY", laid_loop_example_g00047_impl_wayY)], narrowed := true }
def FnExactGoodPathsUptoSaid : Prop := fnExactGoodPathsUptoRow.holds Tryd.pinned (OpenSpec.upto fnExactGoodPathsSpec)

/-- 'laws.FnExactAloneTicks', WHERE WHAT IT READS IS OF BULK AT MOST 1048576: true; the input reads as it did. -/
def fnExactAloneTicksUptoRow : OpenClaim := { program := "ytbndhhjgjalecaadoor", sum := "e0434f1516724ef71b22533ef77e5c531f966f1fe6708c46802a8d0c418ef3cc", func := "loop.example/g00047/laws.FnExactAloneTicks", spec := "fnExactAloneTicks", unfollowed := true, recurses := true, named := ["loop.example/g00047/impl.wayX", "loop.example/g00047/impl.wayY"], plainKeys := false, apart := false, laid := [("loop.example/g00047/impl.wayX", laid_loop_example_g00047_impl_wayX), ("loop.example/g00047/impl.wayY", laid_loop_example_g00047_impl_wayY)], narrowed := true }
def FnExactAloneTicksUptoSaid : Prop := fnExactAloneTicksUptoRow.holds Tryd.pinned (OpenSpec.upto fnExactAloneTicksSpec)

end Rows
end Go.Proofs.YtbndhhjgjalecaaDoor
