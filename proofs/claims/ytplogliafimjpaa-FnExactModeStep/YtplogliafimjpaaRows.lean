/-
  No cell of these rows narrows 'for every input' (looked for: loops, veiled, ifaces, maps, wideKeys, modest, calm, conditions, laid).
  DERIVED. THE GIVEN ROWS OF THIS SEAT. 3 by the template 'for every input the law returns true; each argument reads behind the call as it read before'; 0 by the template 'total and deterministic' (their statements: YtplogliafimjpaaTotals.lean).
  GIVEN WITH THE SEED: the statements are not yours to turn. If you find one false, say at which input.
  Laid BY PROGRAM, IN A SANDBOX (cutbox-rows.mjs): the forced cells as the released guide's own fill.sh prints them over the translation c9d0fce0595ab408… (all of the seat's roots in one cut). By AI agents, Wed Nov 11 2026. No macro, syntax, notation, axiom, sorry.
-/
import Derived.Test.YtplogliafimjpaaChecked
import GoSem.Claim
import GoSem.ClaimJoined
import GoSem.ClaimMapViews
import Derived.JoinedTies
import Derived.KernelRfl
namespace Go.Proofs.Ytplogliafimjpaa
/- THE CELL 'sum', in the pinned program and in every row, IS THE sha256 OF THE DUMP (.gsa) THAT YtplogliafimjpaaProg.lean LOADS. Nothing in Lean hashes anything: it is a label: what it is worth is what the hold of that sum in a sandbox is worth. -/
noncomputable def Try.pinned : Pinned := { name := "ytplogliafimjpaa", sum := "c9d0fce0595ab4086ae0a07168bb12284d2dce68cd31c49a8bb6048f147887fe", checked := Try.checked }
namespace Rows
def none {H : Type} : Left H := { results := [], args := [] }

/-- 'laws.FnExactGoodGear': WHATEVER THE INPUT: true; the input reads as it did. -/
def fnExactGoodGearSpec : ChangeSpec := { name := "fnExactGoodGear", fn := fun _ => fun
  | [d] => { results := [.lit (.bool true)], args := [d] }
  | _ => none }
def fnExactGoodGearRow : OpenClaim := { program := "ytplogliafimjpaa", sum := "c9d0fce0595ab4086ae0a07168bb12284d2dce68cd31c49a8bb6048f147887fe", func := "loop.example/g00047/laws.FnExactGoodGear", spec := "fnExactGoodGear", apart := false }
def FnExactGoodGearSaid : Prop := fnExactGoodGearRow.holds Try.pinned (OpenSpec.ofChange fnExactGoodGearSpec)

/-- ITS FALSE NEIGHBOUR: 'it returns false'. Refute it at one input. -/
def fnExactGoodGearWrong : ChangeSpec := { name := "fnExactGoodGear", fn := fun _ => fun
  | [d] => { results := [.lit (.bool false)], args := [d] }
  | _ => none }
def FnExactGoodGearWrongFalsely : Prop := fnExactGoodGearRow.holds Try.pinned (OpenSpec.ofChange fnExactGoodGearWrong)

/-- 'laws.FnExactStopBound': WHATEVER THE INPUT: true; the input reads as it did. -/
def fnExactStopBoundSpec : ChangeSpec := { name := "fnExactStopBound", fn := fun _ => fun
  | [d] => { results := [.lit (.bool true)], args := [d] }
  | _ => none }
def fnExactStopBoundRow : OpenClaim := { program := "ytplogliafimjpaa", sum := "c9d0fce0595ab4086ae0a07168bb12284d2dce68cd31c49a8bb6048f147887fe", func := "loop.example/g00047/laws.FnExactStopBound", spec := "fnExactStopBound", apart := false }
def FnExactStopBoundSaid : Prop := fnExactStopBoundRow.holds Try.pinned (OpenSpec.ofChange fnExactStopBoundSpec)

/-- ITS FALSE NEIGHBOUR: 'it returns false'. Refute it at one input. -/
def fnExactStopBoundWrong : ChangeSpec := { name := "fnExactStopBound", fn := fun _ => fun
  | [d] => { results := [.lit (.bool false)], args := [d] }
  | _ => none }
def FnExactStopBoundWrongFalsely : Prop := fnExactStopBoundRow.holds Try.pinned (OpenSpec.ofChange fnExactStopBoundWrong)

/-- 'laws.FnExactModeStep': WHATEVER THE INPUT: true; the input reads as it did. -/
def fnExactModeStepSpec : ChangeSpec := { name := "fnExactModeStep", fn := fun _ => fun
  | [d1, d2] => { results := [.lit (.bool true)], args := [d1, d2] }
  | _ => none }
def fnExactModeStepRow : OpenClaim := { program := "ytplogliafimjpaa", sum := "c9d0fce0595ab4086ae0a07168bb12284d2dce68cd31c49a8bb6048f147887fe", func := "loop.example/g00047/laws.FnExactModeStep", spec := "fnExactModeStep", apart := false }
def FnExactModeStepSaid : Prop := fnExactModeStepRow.holds Try.pinned (OpenSpec.ofChange fnExactModeStepSpec)

/-- ITS FALSE NEIGHBOUR: 'it returns false'. Refute it at one input. -/
def fnExactModeStepWrong : ChangeSpec := { name := "fnExactModeStep", fn := fun _ => fun
  | [d1, d2] => { results := [.lit (.bool false)], args := [d1, d2] }
  | _ => none }
def FnExactModeStepWrongFalsely : Prop := fnExactModeStepRow.holds Try.pinned (OpenSpec.ofChange fnExactModeStepWrong)

/- THE SECOND FORM. 'bulk': how many values and letters a reading holds, each counted each time it is reached (what is shared counts as often as it is met; a slice's spare places count too). A statement '..UptoSaid' is the law's where the arguments, and the package variables that the reading takes, are together of bulk at most 1048576: NARROWER than '..Said'. Prove '..Said' where nothing that the law and all that it calls make is longer than what came in: it says more and counts as full. Else prove '..UptoSaid'. A law counts once. -/
mutual
def uptoBulk {H : Type} : DataW H → Nat
  | .lit (.string bytes) => bytes.length + 1
  | .lit _ => 1
  | .nil => 1
  | .ptr d => uptoBulk d + 1
  | .slice elems spare => uptoBulkAll elems + uptoBulkAll spare + 1
  | .agg parts => uptoBulkAll parts + 1
  | .iface _ d => uptoBulk d + 1
  | .map entries => uptoBulkEntries entries + 1
  | .held _ => 1
def uptoBulkAll {H : Type} : List (DataW H) → Nat
  | [] => 0
  | d :: r => uptoBulk d + uptoBulkAll r
def uptoBulkEntries {H : Type} : List (Lit × DataW H) → Nat
  | [] => 0
  | x :: r => uptoBulkEntry x + uptoBulkEntries r
def uptoBulkEntry {H : Type} : Lit × DataW H → Nat
  | (.string bytes, d) => bytes.length + uptoBulk d + 1
  | (_, d) => uptoBulk d + 1
 end
def uptoSmall : (H : Type) → List (DataW H) → Bool := fun _ ds => decide (uptoBulkAll ds ≤ 1048576)
def OpenSpec.upto (s : _root_.Go.ChangeSpec) : _root_.Go.OpenSpec := { _root_.Go.OpenSpec.ofChange s with cond := some uptoSmall }

/-- 'laws.FnExactGoodGear', WHERE WHAT IT READS IS OF BULK AT MOST 1048576: true; the input reads as it did. -/
def fnExactGoodGearUptoRow : OpenClaim := { program := "ytplogliafimjpaa", sum := "c9d0fce0595ab4086ae0a07168bb12284d2dce68cd31c49a8bb6048f147887fe", func := "loop.example/g00047/laws.FnExactGoodGear", spec := "fnExactGoodGear", apart := false, narrowed := true }
def FnExactGoodGearUptoSaid : Prop := fnExactGoodGearUptoRow.holds Try.pinned (OpenSpec.upto fnExactGoodGearSpec)

/-- 'laws.FnExactStopBound', WHERE WHAT IT READS IS OF BULK AT MOST 1048576: true; the input reads as it did. -/
def fnExactStopBoundUptoRow : OpenClaim := { program := "ytplogliafimjpaa", sum := "c9d0fce0595ab4086ae0a07168bb12284d2dce68cd31c49a8bb6048f147887fe", func := "loop.example/g00047/laws.FnExactStopBound", spec := "fnExactStopBound", apart := false, narrowed := true }
def FnExactStopBoundUptoSaid : Prop := fnExactStopBoundUptoRow.holds Try.pinned (OpenSpec.upto fnExactStopBoundSpec)

/-- 'laws.FnExactModeStep', WHERE WHAT IT READS IS OF BULK AT MOST 1048576: true; the input reads as it did. -/
def fnExactModeStepUptoRow : OpenClaim := { program := "ytplogliafimjpaa", sum := "c9d0fce0595ab4086ae0a07168bb12284d2dce68cd31c49a8bb6048f147887fe", func := "loop.example/g00047/laws.FnExactModeStep", spec := "fnExactModeStep", apart := false, narrowed := true }
def FnExactModeStepUptoSaid : Prop := fnExactModeStepUptoRow.holds Try.pinned (OpenSpec.upto fnExactModeStepSpec)

end Rows
end Go.Proofs.Ytplogliafimjpaa
