/-
  No cell of these rows narrows 'for every input' (looked for: loops, veiled, ifaces, maps, wideKeys, modest, calm, conditions, laid).
  DERIVED. THE GIVEN ROWS OF THIS SEAT. 5 by the template 'for every input the law returns true; each argument reads behind the call as it read before'; 0 by the template 'total and deterministic' (their statements: YtjefakfongehdaaRTotals.lean).
  GIVEN WITH THE SEED: the statements are not yours to turn. If you find one false, say at which input.
  Laid BY PROGRAM, IN A SANDBOX (cutbox-rows.mjs): the forced cells as the released guide's own fill.sh prints them over the translation 5b57df95f6f1e849… (all of the seat's roots in one cut). By AI agents, Wed Nov 11 2026. No macro, syntax, notation, axiom, sorry.
-/
import Derived.Test.YtjefakfongehdaaRChecked
import GoSem.Claim
import GoSem.ClaimJoined
import GoSem.ClaimMapViews
import Derived.JoinedTies
import Derived.KernelRfl
namespace Go.Proofs.YtjefakfongehdaaR
/- THE CELL 'sum', in the pinned program and in every row, IS THE sha256 OF THE DUMP (.gsa) THAT YtjefakfongehdaaRProg.lean LOADS. Nothing in Lean hashes anything: it is a label: what it is worth is what the hold of that sum in a sandbox is worth. -/
noncomputable def Try.pinned : Pinned := { name := "ytjefakfongehdaar", sum := "5b57df95f6f1e8496026ae0df2a5b64638a6fc0f8c798d880512c542ea98bd32", checked := Try.checked }
namespace Rows
def none {H : Type} : Left H := { results := [], args := [] }

/-- 'laws.FnChart': WHATEVER THE INPUT: true; the input reads as it did. -/
def fnChartSpec : ChangeSpec := { name := "fnChart", fn := fun _ => fun
  | [d] => { results := [.lit (.bool true)], args := [d] }
  | _ => none }
def fnChartRow : OpenClaim := { program := "ytjefakfongehdaar", sum := "5b57df95f6f1e8496026ae0df2a5b64638a6fc0f8c798d880512c542ea98bd32", func := "loop.example/g00047/laws.FnChart", spec := "fnChart", unfollowed := true, recurses := true, apart := false }
def FnChartSaid : Prop := fnChartRow.holds Try.pinned (OpenSpec.ofChange fnChartSpec)

/-- ITS FALSE NEIGHBOUR: 'it returns false'. Refute it at one input. -/
def fnChartWrong : ChangeSpec := { name := "fnChart", fn := fun _ => fun
  | [d] => { results := [.lit (.bool false)], args := [d] }
  | _ => none }
def FnChartWrongFalsely : Prop := fnChartRow.holds Try.pinned (OpenSpec.ofChange fnChartWrong)

/-- 'laws.FnExactGoodChart': WHATEVER THE INPUT: true; the input reads as it did. -/
def fnExactGoodChartSpec : ChangeSpec := { name := "fnExactGoodChart", fn := fun _ => fun
  | [d] => { results := [.lit (.bool true)], args := [d] }
  | _ => none }
def fnExactGoodChartRow : OpenClaim := { program := "ytjefakfongehdaar", sum := "5b57df95f6f1e8496026ae0df2a5b64638a6fc0f8c798d880512c542ea98bd32", func := "loop.example/g00047/laws.FnExactGoodChart", spec := "fnExactGoodChart", unfollowed := true, recurses := true, apart := false }
def FnExactGoodChartSaid : Prop := fnExactGoodChartRow.holds Try.pinned (OpenSpec.ofChange fnExactGoodChartSpec)

/-- ITS FALSE NEIGHBOUR: 'it returns false'. Refute it at one input. -/
def fnExactGoodChartWrong : ChangeSpec := { name := "fnExactGoodChart", fn := fun _ => fun
  | [d] => { results := [.lit (.bool false)], args := [d] }
  | _ => none }
def FnExactGoodChartWrongFalsely : Prop := fnExactGoodChartRow.holds Try.pinned (OpenSpec.ofChange fnExactGoodChartWrong)

/-- 'laws.FnExactEnterState': WHATEVER THE INPUT: true; the input reads as it did. -/
def fnExactEnterStateSpec : ChangeSpec := { name := "fnExactEnterState", fn := fun _ => fun
  | [d1, d2] => { results := [.lit (.bool true)], args := [d1, d2] }
  | _ => none }
def fnExactEnterStateRow : OpenClaim := { program := "ytjefakfongehdaar", sum := "5b57df95f6f1e8496026ae0df2a5b64638a6fc0f8c798d880512c542ea98bd32", func := "loop.example/g00047/laws.FnExactEnterState", spec := "fnExactEnterState", unfollowed := true, recurses := true, apart := false }
def FnExactEnterStateSaid : Prop := fnExactEnterStateRow.holds Try.pinned (OpenSpec.ofChange fnExactEnterStateSpec)

/-- ITS FALSE NEIGHBOUR: 'it returns false'. Refute it at one input. -/
def fnExactEnterStateWrong : ChangeSpec := { name := "fnExactEnterState", fn := fun _ => fun
  | [d1, d2] => { results := [.lit (.bool false)], args := [d1, d2] }
  | _ => none }
def FnExactEnterStateWrongFalsely : Prop := fnExactEnterStateRow.holds Try.pinned (OpenSpec.ofChange fnExactEnterStateWrong)

/-- 'laws.FnExactChartStep': WHATEVER THE INPUT: true; the input reads as it did. -/
def fnExactChartStepSpec : ChangeSpec := { name := "fnExactChartStep", fn := fun _ => fun
  | [d1, d2, d3] => { results := [.lit (.bool true)], args := [d1, d2, d3] }
  | _ => none }
def fnExactChartStepRow : OpenClaim := { program := "ytjefakfongehdaar", sum := "5b57df95f6f1e8496026ae0df2a5b64638a6fc0f8c798d880512c542ea98bd32", func := "loop.example/g00047/laws.FnExactChartStep", spec := "fnExactChartStep", unfollowed := true, recurses := true, apart := false }
def FnExactChartStepSaid : Prop := fnExactChartStepRow.holds Try.pinned (OpenSpec.ofChange fnExactChartStepSpec)

/-- ITS FALSE NEIGHBOUR: 'it returns false'. Refute it at one input. -/
def fnExactChartStepWrong : ChangeSpec := { name := "fnExactChartStep", fn := fun _ => fun
  | [d1, d2, d3] => { results := [.lit (.bool false)], args := [d1, d2, d3] }
  | _ => none }
def FnExactChartStepWrongFalsely : Prop := fnExactChartStepRow.holds Try.pinned (OpenSpec.ofChange fnExactChartStepWrong)

/-- 'laws.FnExactRunChart': WHATEVER THE INPUT: true; the input reads as it did. -/
def fnExactRunChartSpec : ChangeSpec := { name := "fnExactRunChart", fn := fun _ => fun
  | [d1, d2] => { results := [.lit (.bool true)], args := [d1, d2] }
  | _ => none }
def fnExactRunChartRow : OpenClaim := { program := "ytjefakfongehdaar", sum := "5b57df95f6f1e8496026ae0df2a5b64638a6fc0f8c798d880512c542ea98bd32", func := "loop.example/g00047/laws.FnExactRunChart", spec := "fnExactRunChart", unfollowed := true, recurses := true, apart := false }
def FnExactRunChartSaid : Prop := fnExactRunChartRow.holds Try.pinned (OpenSpec.ofChange fnExactRunChartSpec)

/-- ITS FALSE NEIGHBOUR: 'it returns false'. Refute it at one input. -/
def fnExactRunChartWrong : ChangeSpec := { name := "fnExactRunChart", fn := fun _ => fun
  | [d1, d2] => { results := [.lit (.bool false)], args := [d1, d2] }
  | _ => none }
def FnExactRunChartWrongFalsely : Prop := fnExactRunChartRow.holds Try.pinned (OpenSpec.ofChange fnExactRunChartWrong)

/- THE SECOND FORM. 'bulk': how many values and letters a reading holds, each counted each time it is reached (what is shared counts as often as it is met; a slice's spare places count too). A statement '..UptoSaid' is the law's where the arguments, and the package variables that the reading takes, are together of bulk at most 1048576: NARROWER than '..Said'. Prove '..Said' where nothing that the law and all that it calls make is longer than what came in: it says more and counts as full. Else prove '..UptoSaid'. A law counts once. -/
mutual
def uptoBulk {H : Type} : DataW H → Nat
  | .lit (.string bytes) => bytes.length + 1
  | .lit _ => 1
  | .nil => 1
  | .ptr d => uptoBulk d + 1
  | .slice elems spare => uptoBulkAll elems + uptoBulkAll spare + 1
  | .agg parts => uptoBulkAll parts + 1
  | .iface _ d => uptoBulk d + 1
  | .map entries => uptoBulkEntries entries + 1
  | .held _ => 1
def uptoBulkAll {H : Type} : List (DataW H) → Nat
  | [] => 0
  | d :: r => uptoBulk d + uptoBulkAll r
def uptoBulkEntries {H : Type} : List (Lit × DataW H) → Nat
  | [] => 0
  | x :: r => uptoBulkEntry x + uptoBulkEntries r
def uptoBulkEntry {H : Type} : Lit × DataW H → Nat
  | (.string bytes, d) => bytes.length + uptoBulk d + 1
  | (_, d) => uptoBulk d + 1
 end
def uptoSmall : (H : Type) → List (DataW H) → Bool := fun _ ds => decide (uptoBulkAll ds ≤ 1048576)
def OpenSpec.upto (s : _root_.Go.ChangeSpec) : _root_.Go.OpenSpec := { _root_.Go.OpenSpec.ofChange s with cond := some uptoSmall }

/-- 'laws.FnChart', WHERE WHAT IT READS IS OF BULK AT MOST 1048576: true; the input reads as it did. -/
def fnChartUptoRow : OpenClaim := { program := "ytjefakfongehdaar", sum := "5b57df95f6f1e8496026ae0df2a5b64638a6fc0f8c798d880512c542ea98bd32", func := "loop.example/g00047/laws.FnChart", spec := "fnChart", unfollowed := true, recurses := true, apart := false, narrowed := true }
def FnChartUptoSaid : Prop := fnChartUptoRow.holds Try.pinned (OpenSpec.upto fnChartSpec)

/-- 'laws.FnExactGoodChart', WHERE WHAT IT READS IS OF BULK AT MOST 1048576: true; the input reads as it did. -/
def fnExactGoodChartUptoRow : OpenClaim := { program := "ytjefakfongehdaar", sum := "5b57df95f6f1e8496026ae0df2a5b64638a6fc0f8c798d880512c542ea98bd32", func := "loop.example/g00047/laws.FnExactGoodChart", spec := "fnExactGoodChart", unfollowed := true, recurses := true, apart := false, narrowed := true }
def FnExactGoodChartUptoSaid : Prop := fnExactGoodChartUptoRow.holds Try.pinned (OpenSpec.upto fnExactGoodChartSpec)

/-- 'laws.FnExactEnterState', WHERE WHAT IT READS IS OF BULK AT MOST 1048576: true; the input reads as it did. -/
def fnExactEnterStateUptoRow : OpenClaim := { program := "ytjefakfongehdaar", sum := "5b57df95f6f1e8496026ae0df2a5b64638a6fc0f8c798d880512c542ea98bd32", func := "loop.example/g00047/laws.FnExactEnterState", spec := "fnExactEnterState", unfollowed := true, recurses := true, apart := false, narrowed := true }
def FnExactEnterStateUptoSaid : Prop := fnExactEnterStateUptoRow.holds Try.pinned (OpenSpec.upto fnExactEnterStateSpec)

/-- 'laws.FnExactChartStep', WHERE WHAT IT READS IS OF BULK AT MOST 1048576: true; the input reads as it did. -/
def fnExactChartStepUptoRow : OpenClaim := { program := "ytjefakfongehdaar", sum := "5b57df95f6f1e8496026ae0df2a5b64638a6fc0f8c798d880512c542ea98bd32", func := "loop.example/g00047/laws.FnExactChartStep", spec := "fnExactChartStep", unfollowed := true, recurses := true, apart := false, narrowed := true }
def FnExactChartStepUptoSaid : Prop := fnExactChartStepUptoRow.holds Try.pinned (OpenSpec.upto fnExactChartStepSpec)

/-- 'laws.FnExactRunChart', WHERE WHAT IT READS IS OF BULK AT MOST 1048576: true; the input reads as it did. -/
def fnExactRunChartUptoRow : OpenClaim := { program := "ytjefakfongehdaar", sum := "5b57df95f6f1e8496026ae0df2a5b64638a6fc0f8c798d880512c542ea98bd32", func := "loop.example/g00047/laws.FnExactRunChart", spec := "fnExactRunChart", unfollowed := true, recurses := true, apart := false, narrowed := true }
def FnExactRunChartUptoSaid : Prop := fnExactRunChartUptoRow.holds Try.pinned (OpenSpec.upto fnExactRunChartSpec)

end Rows
end Go.Proofs.YtjefakfongehdaaR
