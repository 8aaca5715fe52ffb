/-
  No cell of these rows narrows 'for every input' (looked for: loops, veiled, ifaces, maps, wideKeys, modest, calm, conditions, laid).
  DERIVED. THE GIVEN ROWS OF THIS SEAT. 3 by the template 'for every input the law returns true; each argument reads behind the call as it read before'; 0 by the template 'total and deterministic' (their statements: YtdpgedkgjfdefabTotals.lean).
  GIVEN WITH THE SEED: the statements are not yours to turn. If you find one false, say at which input.
  Laid BY PROGRAM, IN A SANDBOX (cutbox-rows.mjs): the forced cells as the released guide's own fill.sh prints them over the translation 4627ea3a4640ac80… (all of the seat's roots in one cut). By AI agents, Wed Nov 11 2026. No macro, syntax, notation, axiom, sorry.
-/
import Derived.Test.YtdpgedkgjfdefabChecked
import GoSem.Claim
import GoSem.ClaimJoined
import GoSem.ClaimMapViews
import Derived.JoinedTies
import Derived.KernelRfl
namespace Go.Proofs.Ytdpgedkgjfdefab
/- THE CELL 'sum', in the pinned program and in every row, IS THE sha256 OF THE DUMP (.gsa) THAT YtdpgedkgjfdefabProg.lean LOADS. Nothing in Lean hashes anything: it is a label: what it is worth is what the hold of that sum in a sandbox is worth. -/
noncomputable def Try.pinned : Pinned := { name := "ytdpgedkgjfdefab", sum := "4627ea3a4640ac80d2275c72ea4a19c9055a8393639490fedc3fc04fdd625d88", checked := Try.checked }
namespace Rows
def none {H : Type} : Left H := { results := [], args := [] }

/-- 'laws.FnExactGoodFrame': WHATEVER THE INPUT: true; the input reads as it did. -/
def fnExactGoodFrameSpec : ChangeSpec := { name := "fnExactGoodFrame", fn := fun _ => fun
  | [d] => { results := [.lit (.bool true)], args := [d] }
  | _ => none }
def fnExactGoodFrameRow : OpenClaim := { program := "ytdpgedkgjfdefab", sum := "4627ea3a4640ac80d2275c72ea4a19c9055a8393639490fedc3fc04fdd625d88", func := "loop.example/g00047/laws.FnExactGoodFrame", spec := "fnExactGoodFrame", apart := false }
def FnExactGoodFrameSaid : Prop := fnExactGoodFrameRow.holds Try.pinned (OpenSpec.ofChange fnExactGoodFrameSpec)

/-- ITS FALSE NEIGHBOUR: 'it returns false'. Refute it at one input. -/
def fnExactGoodFrameWrong : ChangeSpec := { name := "fnExactGoodFrame", fn := fun _ => fun
  | [d] => { results := [.lit (.bool false)], args := [d] }
  | _ => none }
def FnExactGoodFrameWrongFalsely : Prop := fnExactGoodFrameRow.holds Try.pinned (OpenSpec.ofChange fnExactGoodFrameWrong)

/-- 'laws.FnExactArbitrate': WHATEVER THE INPUT: true; the input reads as it did. -/
def fnExactArbitrateSpec : ChangeSpec := { name := "fnExactArbitrate", fn := fun _ => fun
  | [d] => { results := [.lit (.bool true)], args := [d] }
  | _ => none }
def fnExactArbitrateRow : OpenClaim := { program := "ytdpgedkgjfdefab", sum := "4627ea3a4640ac80d2275c72ea4a19c9055a8393639490fedc3fc04fdd625d88", func := "loop.example/g00047/laws.FnExactArbitrate", spec := "fnExactArbitrate", apart := false }
def FnExactArbitrateSaid : Prop := fnExactArbitrateRow.holds Try.pinned (OpenSpec.ofChange fnExactArbitrateSpec)

/-- ITS FALSE NEIGHBOUR: 'it returns false'. Refute it at one input. -/
def fnExactArbitrateWrong : ChangeSpec := { name := "fnExactArbitrate", fn := fun _ => fun
  | [d] => { results := [.lit (.bool false)], args := [d] }
  | _ => none }
def FnExactArbitrateWrongFalsely : Prop := fnExactArbitrateRow.holds Try.pinned (OpenSpec.ofChange fnExactArbitrateWrong)

/-- 'laws.FnExactRunBus': WHATEVER THE INPUT: true; the input reads as it did. -/
def fnExactRunBusSpec : ChangeSpec := { name := "fnExactRunBus", fn := fun _ => fun
  | [d1, d2, d3, d4] => { results := [.lit (.bool true)], args := [d1, d2, d3, d4] }
  | _ => none }
def fnExactRunBusRow : OpenClaim := { program := "ytdpgedkgjfdefab", sum := "4627ea3a4640ac80d2275c72ea4a19c9055a8393639490fedc3fc04fdd625d88", func := "loop.example/g00047/laws.FnExactRunBus", spec := "fnExactRunBus", inPlace := ["sync/atomic.StoreInt64", "sync/atomic.LoadInt64", "sync/atomic.AddInt64"], apart := false }
def FnExactRunBusSaid : Prop := fnExactRunBusRow.holds Try.pinned (OpenSpec.ofChange fnExactRunBusSpec)

/-- ITS FALSE NEIGHBOUR: 'it returns false'. Refute it at one input. -/
def fnExactRunBusWrong : ChangeSpec := { name := "fnExactRunBus", fn := fun _ => fun
  | [d1, d2, d3, d4] => { results := [.lit (.bool false)], args := [d1, d2, d3, d4] }
  | _ => none }
def FnExactRunBusWrongFalsely : Prop := fnExactRunBusRow.holds Try.pinned (OpenSpec.ofChange fnExactRunBusWrong)

/- THE SECOND FORM. 'bulk': how many values and letters a reading holds, each counted each time it is reached (what is shared counts as often as it is met; a slice's spare places count too). A statement '..UptoSaid' is the law's where the arguments, and the package variables that the reading takes, are together of bulk at most 1048576: NARROWER than '..Said'. Prove '..Said' where nothing that the law and all that it calls make is longer than what came in: it says more and counts as full. Else prove '..UptoSaid'. A law counts once. -/
mutual
def uptoBulk {H : Type} : DataW H → Nat
  | .lit (.string bytes) => bytes.length + 1
  | .lit _ => 1
  | .nil => 1
  | .ptr d => uptoBulk d + 1
  | .slice elems spare => uptoBulkAll elems + uptoBulkAll spare + 1
  | .agg parts => uptoBulkAll parts + 1
  | .iface _ d => uptoBulk d + 1
  | .map entries => uptoBulkEntries entries + 1
  | .held _ => 1
def uptoBulkAll {H : Type} : List (DataW H) → Nat
  | [] => 0
  | d :: r => uptoBulk d + uptoBulkAll r
def uptoBulkEntries {H : Type} : List (Lit × DataW H) → Nat
  | [] => 0
  | x :: r => uptoBulkEntry x + uptoBulkEntries r
def uptoBulkEntry {H : Type} : Lit × DataW H → Nat
  | (.string bytes, d) => bytes.length + uptoBulk d + 1
  | (_, d) => uptoBulk d + 1
 end
def uptoSmall : (H : Type) → List (DataW H) → Bool := fun _ ds => decide (uptoBulkAll ds ≤ 1048576)
def OpenSpec.upto (s : _root_.Go.ChangeSpec) : _root_.Go.OpenSpec := { _root_.Go.OpenSpec.ofChange s with cond := some uptoSmall }

/-- 'laws.FnExactGoodFrame', WHERE WHAT IT READS IS OF BULK AT MOST 1048576: true; the input reads as it did. -/
def fnExactGoodFrameUptoRow : OpenClaim := { program := "ytdpgedkgjfdefab", sum := "4627ea3a4640ac80d2275c72ea4a19c9055a8393639490fedc3fc04fdd625d88", func := "loop.example/g00047/laws.FnExactGoodFrame", spec := "fnExactGoodFrame", apart := false, narrowed := true }
def FnExactGoodFrameUptoSaid : Prop := fnExactGoodFrameUptoRow.holds Try.pinned (OpenSpec.upto fnExactGoodFrameSpec)

/-- 'laws.FnExactArbitrate', WHERE WHAT IT READS IS OF BULK AT MOST 1048576: true; the input reads as it did. -/
def fnExactArbitrateUptoRow : OpenClaim := { program := "ytdpgedkgjfdefab", sum := "4627ea3a4640ac80d2275c72ea4a19c9055a8393639490fedc3fc04fdd625d88", func := "loop.example/g00047/laws.FnExactArbitrate", spec := "fnExactArbitrate", apart := false, narrowed := true }
def FnExactArbitrateUptoSaid : Prop := fnExactArbitrateUptoRow.holds Try.pinned (OpenSpec.upto fnExactArbitrateSpec)

/-- 'laws.FnExactRunBus', WHERE WHAT IT READS IS OF BULK AT MOST 1048576: true; the input reads as it did. -/
def fnExactRunBusUptoRow : OpenClaim := { program := "ytdpgedkgjfdefab", sum := "4627ea3a4640ac80d2275c72ea4a19c9055a8393639490fedc3fc04fdd625d88", func := "loop.example/g00047/laws.FnExactRunBus", spec := "fnExactRunBus", inPlace := ["sync/atomic.StoreInt64", "sync/atomic.LoadInt64", "sync/atomic.AddInt64"], apart := false, narrowed := true }
def FnExactRunBusUptoSaid : Prop := fnExactRunBusUptoRow.holds Try.pinned (OpenSpec.upto fnExactRunBusSpec)

end Rows
end Go.Proofs.Ytdpgedkgjfdefab
