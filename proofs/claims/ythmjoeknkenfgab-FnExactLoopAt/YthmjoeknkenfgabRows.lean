/-
  No cell of these rows narrows 'for every input' (looked for: loops, veiled, ifaces, maps, wideKeys, modest, calm, conditions, laid).
  DERIVED. THE GIVEN ROWS OF THIS SEAT. 5 by the template 'for every input the law returns true; each argument reads behind the call as it read before'; 0 by the template 'total and deterministic' (their statements: YthmjoeknkenfgabTotals.lean).
  GIVEN WITH THE SEED: the statements are not yours to turn. If you find one false, say at which input.
  Laid BY PROGRAM, IN A SANDBOX (cutbox-rows.mjs): the forced cells as the released guide's own fill.sh prints them over the translation aa93cf0e9561b96d… (all of the seat's roots in one cut). By AI agents, Wed Nov 11 2026. No macro, syntax, notation, axiom, sorry.
-/
import Derived.Test.YthmjoeknkenfgabChecked
import GoSem.Claim
import GoSem.ClaimJoined
import GoSem.ClaimMapViews
import Derived.JoinedTies
import Derived.KernelRfl
namespace Go.Proofs.Ythmjoeknkenfgab
/- THE CELL 'sum', in the pinned program and in every row, IS THE sha256 OF THE DUMP (.gsa) THAT YthmjoeknkenfgabProg.lean LOADS. Nothing in Lean hashes anything: it is a label: what it is worth is what the hold of that sum in a sandbox is worth. -/
noncomputable def Try.pinned : Pinned := { name := "ythmjoeknkenfgab", sum := "aa93cf0e9561b96d3cbe42ce9c192f5876b7ab66d91d77d0f28d241b50a449b7", checked := Try.checked }
namespace Rows
def none {H : Type} : Left H := { results := [], args := [] }

/-- 'laws.FnExactHoldStep': WHATEVER THE INPUT: true; the input reads as it did. -/
def fnExactHoldStepSpec : ChangeSpec := { name := "fnExactHoldStep", fn := fun _ => fun
  | [d1, d2, d3, d4] => { results := [.lit (.bool true)], args := [d1, d2, d3, d4] }
  | _ => none }
def fnExactHoldStepRow : OpenClaim := { program := "ythmjoeknkenfgab", sum := "aa93cf0e9561b96d3cbe42ce9c192f5876b7ab66d91d77d0f28d241b50a449b7", func := "loop.example/g00047/laws.FnExactHoldStep", spec := "fnExactHoldStep", unfollowed := true, recurses := true, apart := false }
def FnExactHoldStepSaid : Prop := fnExactHoldStepRow.holds Try.pinned (OpenSpec.ofChange fnExactHoldStepSpec)

/-- ITS FALSE NEIGHBOUR: 'it returns false'. Refute it at one input. -/
def fnExactHoldStepWrong : ChangeSpec := { name := "fnExactHoldStep", fn := fun _ => fun
  | [d1, d2, d3, d4] => { results := [.lit (.bool false)], args := [d1, d2, d3, d4] }
  | _ => none }
def FnExactHoldStepWrongFalsely : Prop := fnExactHoldStepRow.holds Try.pinned (OpenSpec.ofChange fnExactHoldStepWrong)

/-- 'laws.FnExactRunHold': WHATEVER THE INPUT: true; the input reads as it did. -/
def fnExactRunHoldSpec : ChangeSpec := { name := "fnExactRunHold", fn := fun _ => fun
  | [d1, d2, d3, d4] => { results := [.lit (.bool true)], args := [d1, d2, d3, d4] }
  | _ => none }
def fnExactRunHoldRow : OpenClaim := { program := "ythmjoeknkenfgab", sum := "aa93cf0e9561b96d3cbe42ce9c192f5876b7ab66d91d77d0f28d241b50a449b7", func := "loop.example/g00047/laws.FnExactRunHold", spec := "fnExactRunHold", unfollowed := true, recurses := true, apart := false }
def FnExactRunHoldSaid : Prop := fnExactRunHoldRow.holds Try.pinned (OpenSpec.ofChange fnExactRunHoldSpec)

/-- ITS FALSE NEIGHBOUR: 'it returns false'. Refute it at one input. -/
def fnExactRunHoldWrong : ChangeSpec := { name := "fnExactRunHold", fn := fun _ => fun
  | [d1, d2, d3, d4] => { results := [.lit (.bool false)], args := [d1, d2, d3, d4] }
  | _ => none }
def FnExactRunHoldWrongFalsely : Prop := fnExactRunHoldRow.holds Try.pinned (OpenSpec.ofChange fnExactRunHoldWrong)

/-- 'laws.FnExactCascadeStep': WHATEVER THE INPUT: true; the input reads as it did. -/
def fnExactCascadeStepSpec : ChangeSpec := { name := "fnExactCascadeStep", fn := fun _ => fun
  | [d1, d2, d3, d4, d5, d6, d7] => { results := [.lit (.bool true)], args := [d1, d2, d3, d4, d5, d6, d7] }
  | _ => none }
def fnExactCascadeStepRow : OpenClaim := { program := "ythmjoeknkenfgab", sum := "aa93cf0e9561b96d3cbe42ce9c192f5876b7ab66d91d77d0f28d241b50a449b7", func := "loop.example/g00047/laws.FnExactCascadeStep", spec := "fnExactCascadeStep", unfollowed := true, recurses := true, apart := false }
def FnExactCascadeStepSaid : Prop := fnExactCascadeStepRow.holds Try.pinned (OpenSpec.ofChange fnExactCascadeStepSpec)

/-- ITS FALSE NEIGHBOUR: 'it returns false'. Refute it at one input. -/
def fnExactCascadeStepWrong : ChangeSpec := { name := "fnExactCascadeStep", fn := fun _ => fun
  | [d1, d2, d3, d4, d5, d6, d7] => { results := [.lit (.bool false)], args := [d1, d2, d3, d4, d5, d6, d7] }
  | _ => none }
def FnExactCascadeStepWrongFalsely : Prop := fnExactCascadeStepRow.holds Try.pinned (OpenSpec.ofChange fnExactCascadeStepWrong)

/-- 'laws.FnExactLoopAt': WHATEVER THE INPUT: true; the input reads as it did. -/
def fnExactLoopAtSpec : ChangeSpec := { name := "fnExactLoopAt", fn := fun _ => fun
  | [d1, d2] => { results := [.lit (.bool true)], args := [d1, d2] }
  | _ => none }
def fnExactLoopAtRow : OpenClaim := { program := "ythmjoeknkenfgab", sum := "aa93cf0e9561b96d3cbe42ce9c192f5876b7ab66d91d77d0f28d241b50a449b7", func := "loop.example/g00047/laws.FnExactLoopAt", spec := "fnExactLoopAt", apart := false }
def FnExactLoopAtSaid : Prop := fnExactLoopAtRow.holds Try.pinned (OpenSpec.ofChange fnExactLoopAtSpec)

/-- ITS FALSE NEIGHBOUR: 'it returns false'. Refute it at one input. -/
def fnExactLoopAtWrong : ChangeSpec := { name := "fnExactLoopAt", fn := fun _ => fun
  | [d1, d2] => { results := [.lit (.bool false)], args := [d1, d2] }
  | _ => none }
def FnExactLoopAtWrongFalsely : Prop := fnExactLoopAtRow.holds Try.pinned (OpenSpec.ofChange fnExactLoopAtWrong)

/-- 'laws.FnExactRunPlant': WHATEVER THE INPUT: true; the input reads as it did. -/
def fnExactRunPlantSpec : ChangeSpec := { name := "fnExactRunPlant", fn := fun _ => fun
  | [d1, d2, d3] => { results := [.lit (.bool true)], args := [d1, d2, d3] }
  | _ => none }
def fnExactRunPlantRow : OpenClaim := { program := "ythmjoeknkenfgab", sum := "aa93cf0e9561b96d3cbe42ce9c192f5876b7ab66d91d77d0f28d241b50a449b7", func := "loop.example/g00047/laws.FnExactRunPlant", spec := "fnExactRunPlant", unfollowed := true, recurses := true, apart := false }
def FnExactRunPlantSaid : Prop := fnExactRunPlantRow.holds Try.pinned (OpenSpec.ofChange fnExactRunPlantSpec)

/-- ITS FALSE NEIGHBOUR: 'it returns false'. Refute it at one input. -/
def fnExactRunPlantWrong : ChangeSpec := { name := "fnExactRunPlant", fn := fun _ => fun
  | [d1, d2, d3] => { results := [.lit (.bool false)], args := [d1, d2, d3] }
  | _ => none }
def FnExactRunPlantWrongFalsely : Prop := fnExactRunPlantRow.holds Try.pinned (OpenSpec.ofChange fnExactRunPlantWrong)

/- THE SECOND FORM. 'bulk': how many values and letters a reading holds, each counted each time it is reached (what is shared counts as often as it is met; a slice's spare places count too). A statement '..UptoSaid' is the law's where the arguments, and the package variables that the reading takes, are together of bulk at most 1048576: NARROWER than '..Said'. Prove '..Said' where nothing that the law and all that it calls make is longer than what came in: it says more and counts as full. Else prove '..UptoSaid'. A law counts once. -/
mutual
def uptoBulk {H : Type} : DataW H → Nat
  | .lit (.string bytes) => bytes.length + 1
  | .lit _ => 1
  | .nil => 1
  | .ptr d => uptoBulk d + 1
  | .slice elems spare => uptoBulkAll elems + uptoBulkAll spare + 1
  | .agg parts => uptoBulkAll parts + 1
  | .iface _ d => uptoBulk d + 1
  | .map entries => uptoBulkEntries entries + 1
  | .held _ => 1
def uptoBulkAll {H : Type} : List (DataW H) → Nat
  | [] => 0
  | d :: r => uptoBulk d + uptoBulkAll r
def uptoBulkEntries {H : Type} : List (Lit × DataW H) → Nat
  | [] => 0
  | x :: r => uptoBulkEntry x + uptoBulkEntries r
def uptoBulkEntry {H : Type} : Lit × DataW H → Nat
  | (.string bytes, d) => bytes.length + uptoBulk d + 1
  | (_, d) => uptoBulk d + 1
 end
def uptoSmall : (H : Type) → List (DataW H) → Bool := fun _ ds => decide (uptoBulkAll ds ≤ 1048576)
def OpenSpec.upto (s : _root_.Go.ChangeSpec) : _root_.Go.OpenSpec := { _root_.Go.OpenSpec.ofChange s with cond := some uptoSmall }

/-- 'laws.FnExactHoldStep', WHERE WHAT IT READS IS OF BULK AT MOST 1048576: true; the input reads as it did. -/
def fnExactHoldStepUptoRow : OpenClaim := { program := "ythmjoeknkenfgab", sum := "aa93cf0e9561b96d3cbe42ce9c192f5876b7ab66d91d77d0f28d241b50a449b7", func := "loop.example/g00047/laws.FnExactHoldStep", spec := "fnExactHoldStep", unfollowed := true, recurses := true, apart := false, narrowed := true }
def FnExactHoldStepUptoSaid : Prop := fnExactHoldStepUptoRow.holds Try.pinned (OpenSpec.upto fnExactHoldStepSpec)

/-- 'laws.FnExactRunHold', WHERE WHAT IT READS IS OF BULK AT MOST 1048576: true; the input reads as it did. -/
def fnExactRunHoldUptoRow : OpenClaim := { program := "ythmjoeknkenfgab", sum := "aa93cf0e9561b96d3cbe42ce9c192f5876b7ab66d91d77d0f28d241b50a449b7", func := "loop.example/g00047/laws.FnExactRunHold", spec := "fnExactRunHold", unfollowed := true, recurses := true, apart := false, narrowed := true }
def FnExactRunHoldUptoSaid : Prop := fnExactRunHoldUptoRow.holds Try.pinned (OpenSpec.upto fnExactRunHoldSpec)

/-- 'laws.FnExactCascadeStep', WHERE WHAT IT READS IS OF BULK AT MOST 1048576: true; the input reads as it did. -/
def fnExactCascadeStepUptoRow : OpenClaim := { program := "ythmjoeknkenfgab", sum := "aa93cf0e9561b96d3cbe42ce9c192f5876b7ab66d91d77d0f28d241b50a449b7", func := "loop.example/g00047/laws.FnExactCascadeStep", spec := "fnExactCascadeStep", unfollowed := true, recurses := true, apart := false, narrowed := true }
def FnExactCascadeStepUptoSaid : Prop := fnExactCascadeStepUptoRow.holds Try.pinned (OpenSpec.upto fnExactCascadeStepSpec)

/-- 'laws.FnExactLoopAt', WHERE WHAT IT READS IS OF BULK AT MOST 1048576: true; the input reads as it did. -/
def fnExactLoopAtUptoRow : OpenClaim := { program := "ythmjoeknkenfgab", sum := "aa93cf0e9561b96d3cbe42ce9c192f5876b7ab66d91d77d0f28d241b50a449b7", func := "loop.example/g00047/laws.FnExactLoopAt", spec := "fnExactLoopAt", apart := false, narrowed := true }
def FnExactLoopAtUptoSaid : Prop := fnExactLoopAtUptoRow.holds Try.pinned (OpenSpec.upto fnExactLoopAtSpec)

/-- 'laws.FnExactRunPlant', WHERE WHAT IT READS IS OF BULK AT MOST 1048576: true; the input reads as it did. -/
def fnExactRunPlantUptoRow : OpenClaim := { program := "ythmjoeknkenfgab", sum := "aa93cf0e9561b96d3cbe42ce9c192f5876b7ab66d91d77d0f28d241b50a449b7", func := "loop.example/g00047/laws.FnExactRunPlant", spec := "fnExactRunPlant", unfollowed := true, recurses := true, apart := false, narrowed := true }
def FnExactRunPlantUptoSaid : Prop := fnExactRunPlantUptoRow.holds Try.pinned (OpenSpec.upto fnExactRunPlantSpec)

end Rows
end Go.Proofs.Ythmjoeknkenfgab
