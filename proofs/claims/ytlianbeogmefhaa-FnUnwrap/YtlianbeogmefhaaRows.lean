/-
  No cell of these rows narrows 'for every input' (looked for: loops, veiled, ifaces, maps, wideKeys, modest, calm, conditions, laid).
  DERIVED. THE GIVEN ROWS OF THIS SEAT. 3 by the template 'for every input the law returns true; each argument reads behind the call as it read before'; 0 by the template 'total and deterministic' (their statements: YtlianbeogmefhaaTotals.lean).
  GIVEN WITH THE SEED: the statements are not yours to turn. If you find one false, say at which input.
  Laid BY PROGRAM, IN A SANDBOX (cutbox-rows.mjs): the forced cells as the released guide's own fill.sh prints them over the translation a68791f9a28c2944… (all of the seat's roots in one cut). By AI agents, Wed Nov 11 2026. No macro, syntax, notation, axiom, sorry.
-/
import Derived.Test.YtlianbeogmefhaaChecked
import GoSem.Claim
import GoSem.ClaimJoined
import GoSem.ClaimMapViews
import Derived.JoinedTies
import Derived.KernelRfl
namespace Go.Proofs.Ytlianbeogmefhaa
/- THE CELL 'sum', in the pinned program and in every row, IS THE sha256 OF THE DUMP (.gsa) THAT YtlianbeogmefhaaProg.lean LOADS. Nothing in Lean hashes anything: it is a label: what it is worth is what the hold of that sum in a sandbox is worth. -/
noncomputable def Try.pinned : Pinned := { name := "ytlianbeogmefhaa", sum := "a68791f9a28c294455c51b44c17ee86a6a6cc2a8a4464b9824a19e3ddd823fa1", checked := Try.checked }
namespace Rows
def none {H : Type} : Left H := { results := [], args := [] }

/-- 'laws.FnUnwrap': WHATEVER THE INPUT: true; the input reads as it did. -/
def fnUnwrapSpec : ChangeSpec := { name := "fnUnwrap", fn := fun _ => fun
  | [d] => { results := [.lit (.bool true)], args := [d] }
  | _ => none }
def fnUnwrapRow : OpenClaim := { program := "ytlianbeogmefhaa", sum := "a68791f9a28c294455c51b44c17ee86a6a6cc2a8a4464b9824a19e3ddd823fa1", func := "loop.example/g00047/laws.FnUnwrap", spec := "fnUnwrap", apart := false }
def FnUnwrapSaid : Prop := fnUnwrapRow.holds Try.pinned (OpenSpec.ofChange fnUnwrapSpec)

/-- ITS FALSE NEIGHBOUR: 'it returns false'. Refute it at one input. -/
def fnUnwrapWrong : ChangeSpec := { name := "fnUnwrap", fn := fun _ => fun
  | [d] => { results := [.lit (.bool false)], args := [d] }
  | _ => none }
def FnUnwrapWrongFalsely : Prop := fnUnwrapRow.holds Try.pinned (OpenSpec.ofChange fnUnwrapWrong)

/-- 'laws.FnExactWrapCount': WHATEVER THE INPUT: true; the input reads as it did. -/
def fnExactWrapCountSpec : ChangeSpec := { name := "fnExactWrapCount", fn := fun _ => fun
  | [d1, d2] => { results := [.lit (.bool true)], args := [d1, d2] }
  | _ => none }
def fnExactWrapCountRow : OpenClaim := { program := "ytlianbeogmefhaa", sum := "a68791f9a28c294455c51b44c17ee86a6a6cc2a8a4464b9824a19e3ddd823fa1", func := "loop.example/g00047/laws.FnExactWrapCount", spec := "fnExactWrapCount", apart := false }
def FnExactWrapCountSaid : Prop := fnExactWrapCountRow.holds Try.pinned (OpenSpec.ofChange fnExactWrapCountSpec)

/-- ITS FALSE NEIGHBOUR: 'it returns false'. Refute it at one input. -/
def fnExactWrapCountWrong : ChangeSpec := { name := "fnExactWrapCount", fn := fun _ => fun
  | [d1, d2] => { results := [.lit (.bool false)], args := [d1, d2] }
  | _ => none }
def FnExactWrapCountWrongFalsely : Prop := fnExactWrapCountRow.holds Try.pinned (OpenSpec.ofChange fnExactWrapCountWrong)

/-- 'laws.FnExactUnwrapCounts': WHATEVER THE INPUT: true; the input reads as it did. -/
def fnExactUnwrapCountsSpec : ChangeSpec := { name := "fnExactUnwrapCounts", fn := fun _ => fun
  | [d1, d2] => { results := [.lit (.bool true)], args := [d1, d2] }
  | _ => none }
def fnExactUnwrapCountsRow : OpenClaim := { program := "ytlianbeogmefhaa", sum := "a68791f9a28c294455c51b44c17ee86a6a6cc2a8a4464b9824a19e3ddd823fa1", func := "loop.example/g00047/laws.FnExactUnwrapCounts", spec := "fnExactUnwrapCounts", apart := false }
def FnExactUnwrapCountsSaid : Prop := fnExactUnwrapCountsRow.holds Try.pinned (OpenSpec.ofChange fnExactUnwrapCountsSpec)

/-- ITS FALSE NEIGHBOUR: 'it returns false'. Refute it at one input. -/
def fnExactUnwrapCountsWrong : ChangeSpec := { name := "fnExactUnwrapCounts", fn := fun _ => fun
  | [d1, d2] => { results := [.lit (.bool false)], args := [d1, d2] }
  | _ => none }
def FnExactUnwrapCountsWrongFalsely : Prop := fnExactUnwrapCountsRow.holds Try.pinned (OpenSpec.ofChange fnExactUnwrapCountsWrong)

/- THE SECOND FORM. 'bulk': how many values and letters a reading holds, each counted each time it is reached (what is shared counts as often as it is met; a slice's spare places count too). A statement '..UptoSaid' is the law's where the arguments, and the package variables that the reading takes, are together of bulk at most 1048576: NARROWER than '..Said'. Prove '..Said' where nothing that the law and all that it calls make is longer than what came in: it says more and counts as full. Else prove '..UptoSaid'. A law counts once. -/
mutual
def uptoBulk {H : Type} : DataW H → Nat
  | .lit (.string bytes) => bytes.length + 1
  | .lit _ => 1
  | .nil => 1
  | .ptr d => uptoBulk d + 1
  | .slice elems spare => uptoBulkAll elems + uptoBulkAll spare + 1
  | .agg parts => uptoBulkAll parts + 1
  | .iface _ d => uptoBulk d + 1
  | .map entries => uptoBulkEntries entries + 1
  | .held _ => 1
def uptoBulkAll {H : Type} : List (DataW H) → Nat
  | [] => 0
  | d :: r => uptoBulk d + uptoBulkAll r
def uptoBulkEntries {H : Type} : List (Lit × DataW H) → Nat
  | [] => 0
  | x :: r => uptoBulkEntry x + uptoBulkEntries r
def uptoBulkEntry {H : Type} : Lit × DataW H → Nat
  | (.string bytes, d) => bytes.length + uptoBulk d + 1
  | (_, d) => uptoBulk d + 1
 end
def uptoSmall : (H : Type) → List (DataW H) → Bool := fun _ ds => decide (uptoBulkAll ds ≤ 1048576)
def OpenSpec.upto (s : _root_.Go.ChangeSpec) : _root_.Go.OpenSpec := { _root_.Go.OpenSpec.ofChange s with cond := some uptoSmall }

/-- 'laws.FnUnwrap', WHERE WHAT IT READS IS OF BULK AT MOST 1048576: true; the input reads as it did. -/
def fnUnwrapUptoRow : OpenClaim := { program := "ytlianbeogmefhaa", sum := "a68791f9a28c294455c51b44c17ee86a6a6cc2a8a4464b9824a19e3ddd823fa1", func := "loop.example/g00047/laws.FnUnwrap", spec := "fnUnwrap", apart := false, narrowed := true }
def FnUnwrapUptoSaid : Prop := fnUnwrapUptoRow.holds Try.pinned (OpenSpec.upto fnUnwrapSpec)

/-- 'laws.FnExactWrapCount', WHERE WHAT IT READS IS OF BULK AT MOST 1048576: true; the input reads as it did. -/
def fnExactWrapCountUptoRow : OpenClaim := { program := "ytlianbeogmefhaa", sum := "a68791f9a28c294455c51b44c17ee86a6a6cc2a8a4464b9824a19e3ddd823fa1", func := "loop.example/g00047/laws.FnExactWrapCount", spec := "fnExactWrapCount", apart := false, narrowed := true }
def FnExactWrapCountUptoSaid : Prop := fnExactWrapCountUptoRow.holds Try.pinned (OpenSpec.upto fnExactWrapCountSpec)

/-- 'laws.FnExactUnwrapCounts', WHERE WHAT IT READS IS OF BULK AT MOST 1048576: true; the input reads as it did. -/
def fnExactUnwrapCountsUptoRow : OpenClaim := { program := "ytlianbeogmefhaa", sum := "a68791f9a28c294455c51b44c17ee86a6a6cc2a8a4464b9824a19e3ddd823fa1", func := "loop.example/g00047/laws.FnExactUnwrapCounts", spec := "fnExactUnwrapCounts", apart := false, narrowed := true }
def FnExactUnwrapCountsUptoSaid : Prop := fnExactUnwrapCountsUptoRow.holds Try.pinned (OpenSpec.upto fnExactUnwrapCountsSpec)

end Rows
end Go.Proofs.Ytlianbeogmefhaa
