/-
  No cell of these rows narrows 'for every input' (looked for: loops, veiled, ifaces, maps, wideKeys, modest, calm, conditions, laid).
  DERIVED. THE GIVEN ROWS OF THIS SEAT. 4 by the template 'for every input the law returns true; each argument reads behind the call as it read before'; 0 by the template 'total and deterministic' (their statements: YtjamfjhdeijbpabTotals.lean).
  GIVEN WITH THE SEED: the statements are not yours to turn. If you find one false, say at which input.
  Laid BY PROGRAM, IN A SANDBOX (cutbox-rows.mjs): the forced cells as the released guide's own fill.sh prints them over the translation 9c479c0eb8f734dd… (all of the seat's roots in one cut). By AI agents, Wed Nov 11 2026. No macro, syntax, notation, axiom, sorry.
-/
import Derived.Test.YtjamfjhdeijbpabChecked
import GoSem.Claim
import GoSem.ClaimJoined
import GoSem.ClaimMapViews
import Derived.JoinedTies
import Derived.KernelRfl
namespace Go.Proofs.Ytjamfjhdeijbpab
/- THE CELL 'sum', in the pinned program and in every row, IS THE sha256 OF THE DUMP (.gsa) THAT YtjamfjhdeijbpabProg.lean LOADS. Nothing in Lean hashes anything: it is a label: what it is worth is what the hold of that sum in a sandbox is worth. -/
noncomputable def Try.pinned : Pinned := { name := "ytjamfjhdeijbpab", sum := "9c479c0eb8f734ddd5ccbd2d1d6926f0644d973494a8c433f74cfc9be147671c", checked := Try.checked }
namespace Rows
def none {H : Type} : Left H := { results := [], args := [] }

/-- 'laws.FnExactLastReal': WHATEVER THE INPUT: true; the input reads as it did. -/
def fnExactLastRealSpec : ChangeSpec := { name := "fnExactLastReal", fn := fun _ => fun
  | [d] => { results := [.lit (.bool true)], args := [d] }
  | _ => none }
def fnExactLastRealRow : OpenClaim := { program := "ytjamfjhdeijbpab", sum := "9c479c0eb8f734ddd5ccbd2d1d6926f0644d973494a8c433f74cfc9be147671c", func := "loop.example/g00047/laws.FnExactLastReal", spec := "fnExactLastReal", inPlace := ["math.Float64bits", "math.Float64frombits"], apart := false }
def FnExactLastRealSaid : Prop := fnExactLastRealRow.holds Try.pinned (OpenSpec.ofChange fnExactLastRealSpec)

/-- ITS FALSE NEIGHBOUR: 'it returns false'. Refute it at one input. -/
def fnExactLastRealWrong : ChangeSpec := { name := "fnExactLastReal", fn := fun _ => fun
  | [d] => { results := [.lit (.bool false)], args := [d] }
  | _ => none }
def FnExactLastRealWrongFalsely : Prop := fnExactLastRealRow.holds Try.pinned (OpenSpec.ofChange fnExactLastRealWrong)

/-- 'laws.FnExactSumReals': WHATEVER THE INPUT: true; the input reads as it did. -/
def fnExactSumRealsSpec : ChangeSpec := { name := "fnExactSumReals", fn := fun _ => fun
  | [d] => { results := [.lit (.bool true)], args := [d] }
  | _ => none }
def fnExactSumRealsRow : OpenClaim := { program := "ytjamfjhdeijbpab", sum := "9c479c0eb8f734ddd5ccbd2d1d6926f0644d973494a8c433f74cfc9be147671c", func := "loop.example/g00047/laws.FnExactSumReals", spec := "fnExactSumReals", inPlace := ["math.Float64bits", "math.Float64frombits", "(*sync.WaitGroup).Add", "internal/race.ReleaseMerge", "internal/race.Disable", "internal/race.Enable", "internal/synctest.IsInBubble", "internal/synctest.Associate[sync.WaitGroup]", "sync.fatal", "sync/atomic.OrUint64", "sync/atomic.AddUint64", "internal/race.Read", "sync/atomic.LoadUint64", "sync/atomic.StoreUint64", "internal/synctest.Disassociate[sync.WaitGroup]", "sync.runtime_Semrelease", "(*sync.WaitGroup).Done", "(*sync.WaitGroup).Wait", "internal/race.Acquire", "internal/synctest.IsAssociated[sync.WaitGroup]", "sync/atomic.CompareAndSwapUint64", "internal/race.Write", "sync.runtime_SemacquireWaitGroup"], unfollowed := true, recurses := true, leaving := true, apart := false }
def FnExactSumRealsSaid : Prop := fnExactSumRealsRow.holds Try.pinned (OpenSpec.ofChange fnExactSumRealsSpec)

/-- ITS FALSE NEIGHBOUR: 'it returns false'. Refute it at one input. -/
def fnExactSumRealsWrong : ChangeSpec := { name := "fnExactSumReals", fn := fun _ => fun
  | [d] => { results := [.lit (.bool false)], args := [d] }
  | _ => none }
def FnExactSumRealsWrongFalsely : Prop := fnExactSumRealsRow.holds Try.pinned (OpenSpec.ofChange fnExactSumRealsWrong)

/-- 'laws.FnExactDotReals': WHATEVER THE INPUT: true; the input reads as it did. -/
def fnExactDotRealsSpec : ChangeSpec := { name := "fnExactDotReals", fn := fun _ => fun
  | [d1, d2] => { results := [.lit (.bool true)], args := [d1, d2] }
  | _ => none }
def fnExactDotRealsRow : OpenClaim := { program := "ytjamfjhdeijbpab", sum := "9c479c0eb8f734ddd5ccbd2d1d6926f0644d973494a8c433f74cfc9be147671c", func := "loop.example/g00047/laws.FnExactDotReals", spec := "fnExactDotReals", inPlace := ["math.Float64bits", "math.Float64frombits", "(*sync.WaitGroup).Add", "internal/race.ReleaseMerge", "internal/race.Disable", "internal/race.Enable", "internal/synctest.IsInBubble", "internal/synctest.Associate[sync.WaitGroup]", "sync.fatal", "sync/atomic.OrUint64", "sync/atomic.AddUint64", "internal/race.Read", "sync/atomic.LoadUint64", "sync/atomic.StoreUint64", "internal/synctest.Disassociate[sync.WaitGroup]", "sync.runtime_Semrelease", "(*sync.WaitGroup).Done", "(*sync.WaitGroup).Wait", "internal/race.Acquire", "internal/synctest.IsAssociated[sync.WaitGroup]", "sync/atomic.CompareAndSwapUint64", "internal/race.Write", "sync.runtime_SemacquireWaitGroup"], unfollowed := true, recurses := true, leaving := true, apart := false }
def FnExactDotRealsSaid : Prop := fnExactDotRealsRow.holds Try.pinned (OpenSpec.ofChange fnExactDotRealsSpec)

/-- ITS FALSE NEIGHBOUR: 'it returns false'. Refute it at one input. -/
def fnExactDotRealsWrong : ChangeSpec := { name := "fnExactDotReals", fn := fun _ => fun
  | [d1, d2] => { results := [.lit (.bool false)], args := [d1, d2] }
  | _ => none }
def FnExactDotRealsWrongFalsely : Prop := fnExactDotRealsRow.holds Try.pinned (OpenSpec.ofChange fnExactDotRealsWrong)

/-- 'laws.FnExactNormReal': WHATEVER THE INPUT: true; the input reads as it did. -/
def fnExactNormRealSpec : ChangeSpec := { name := "fnExactNormReal", fn := fun _ => fun
  | [d] => { results := [.lit (.bool true)], args := [d] }
  | _ => none }
def fnExactNormRealRow : OpenClaim := { program := "ytjamfjhdeijbpab", sum := "9c479c0eb8f734ddd5ccbd2d1d6926f0644d973494a8c433f74cfc9be147671c", func := "loop.example/g00047/laws.FnExactNormReal", spec := "fnExactNormReal", inPlace := ["math.Float64bits", "math.Float64frombits", "math.sqrt", "(*sync.WaitGroup).Add", "internal/race.ReleaseMerge", "internal/race.Disable", "internal/race.Enable", "internal/synctest.IsInBubble", "internal/synctest.Associate[sync.WaitGroup]", "sync.fatal", "sync/atomic.OrUint64", "sync/atomic.AddUint64", "internal/race.Read", "sync/atomic.LoadUint64", "sync/atomic.StoreUint64", "internal/synctest.Disassociate[sync.WaitGroup]", "sync.runtime_Semrelease", "(*sync.WaitGroup).Done", "(*sync.WaitGroup).Wait", "internal/race.Acquire", "internal/synctest.IsAssociated[sync.WaitGroup]", "sync/atomic.CompareAndSwapUint64", "internal/race.Write", "sync.runtime_SemacquireWaitGroup"], unfollowed := true, recurses := true, leaving := true, apart := false }
def FnExactNormRealSaid : Prop := fnExactNormRealRow.holds Try.pinned (OpenSpec.ofChange fnExactNormRealSpec)

/-- ITS FALSE NEIGHBOUR: 'it returns false'. Refute it at one input. -/
def fnExactNormRealWrong : ChangeSpec := { name := "fnExactNormReal", fn := fun _ => fun
  | [d] => { results := [.lit (.bool false)], args := [d] }
  | _ => none }
def FnExactNormRealWrongFalsely : Prop := fnExactNormRealRow.holds Try.pinned (OpenSpec.ofChange fnExactNormRealWrong)

/- THE SECOND FORM. 'bulk': how many values and letters a reading holds, each counted each time it is reached (what is shared counts as often as it is met; a slice's spare places count too). A statement '..UptoSaid' is the law's where the arguments, and the package variables that the reading takes, are together of bulk at most 1048576: NARROWER than '..Said'. Prove '..Said' where nothing that the law and all that it calls make is longer than what came in: it says more and counts as full. Else prove '..UptoSaid'. A law counts once. -/
mutual
def uptoBulk {H : Type} : DataW H → Nat
  | .lit (.string bytes) => bytes.length + 1
  | .lit _ => 1
  | .nil => 1
  | .ptr d => uptoBulk d + 1
  | .slice elems spare => uptoBulkAll elems + uptoBulkAll spare + 1
  | .agg parts => uptoBulkAll parts + 1
  | .iface _ d => uptoBulk d + 1
  | .map entries => uptoBulkEntries entries + 1
  | .held _ => 1
def uptoBulkAll {H : Type} : List (DataW H) → Nat
  | [] => 0
  | d :: r => uptoBulk d + uptoBulkAll r
def uptoBulkEntries {H : Type} : List (Lit × DataW H) → Nat
  | [] => 0
  | x :: r => uptoBulkEntry x + uptoBulkEntries r
def uptoBulkEntry {H : Type} : Lit × DataW H → Nat
  | (.string bytes, d) => bytes.length + uptoBulk d + 1
  | (_, d) => uptoBulk d + 1
 end
def uptoSmall : (H : Type) → List (DataW H) → Bool := fun _ ds => decide (uptoBulkAll ds ≤ 1048576)
def OpenSpec.upto (s : _root_.Go.ChangeSpec) : _root_.Go.OpenSpec := { _root_.Go.OpenSpec.ofChange s with cond := some uptoSmall }

/-- 'laws.FnExactLastReal', WHERE WHAT IT READS IS OF BULK AT MOST 1048576: true; the input reads as it did. -/
def fnExactLastRealUptoRow : OpenClaim := { program := "ytjamfjhdeijbpab", sum := "9c479c0eb8f734ddd5ccbd2d1d6926f0644d973494a8c433f74cfc9be147671c", func := "loop.example/g00047/laws.FnExactLastReal", spec := "fnExactLastReal", inPlace := ["math.Float64bits", "math.Float64frombits"], apart := false, narrowed := true }
def FnExactLastRealUptoSaid : Prop := fnExactLastRealUptoRow.holds Try.pinned (OpenSpec.upto fnExactLastRealSpec)

/-- 'laws.FnExactSumReals', WHERE WHAT IT READS IS OF BULK AT MOST 1048576: true; the input reads as it did. -/
def fnExactSumRealsUptoRow : OpenClaim := { program := "ytjamfjhdeijbpab", sum := "9c479c0eb8f734ddd5ccbd2d1d6926f0644d973494a8c433f74cfc9be147671c", func := "loop.example/g00047/laws.FnExactSumReals", spec := "fnExactSumReals", inPlace := ["math.Float64bits", "math.Float64frombits", "(*sync.WaitGroup).Add", "internal/race.ReleaseMerge", "internal/race.Disable", "internal/race.Enable", "internal/synctest.IsInBubble", "internal/synctest.Associate[sync.WaitGroup]", "sync.fatal", "sync/atomic.OrUint64", "sync/atomic.AddUint64", "internal/race.Read", "sync/atomic.LoadUint64", "sync/atomic.StoreUint64", "internal/synctest.Disassociate[sync.WaitGroup]", "sync.runtime_Semrelease", "(*sync.WaitGroup).Done", "(*sync.WaitGroup).Wait", "internal/race.Acquire", "internal/synctest.IsAssociated[sync.WaitGroup]", "sync/atomic.CompareAndSwapUint64", "internal/race.Write", "sync.runtime_SemacquireWaitGroup"], unfollowed := true, recurses := true, leaving := true, apart := false, narrowed := true }
def FnExactSumRealsUptoSaid : Prop := fnExactSumRealsUptoRow.holds Try.pinned (OpenSpec.upto fnExactSumRealsSpec)

/-- 'laws.FnExactDotReals', WHERE WHAT IT READS IS OF BULK AT MOST 1048576: true; the input reads as it did. -/
def fnExactDotRealsUptoRow : OpenClaim := { program := "ytjamfjhdeijbpab", sum := "9c479c0eb8f734ddd5ccbd2d1d6926f0644d973494a8c433f74cfc9be147671c", func := "loop.example/g00047/laws.FnExactDotReals", spec := "fnExactDotReals", inPlace := ["math.Float64bits", "math.Float64frombits", "(*sync.WaitGroup).Add", "internal/race.ReleaseMerge", "internal/race.Disable", "internal/race.Enable", "internal/synctest.IsInBubble", "internal/synctest.Associate[sync.WaitGroup]", "sync.fatal", "sync/atomic.OrUint64", "sync/atomic.AddUint64", "internal/race.Read", "sync/atomic.LoadUint64", "sync/atomic.StoreUint64", "internal/synctest.Disassociate[sync.WaitGroup]", "sync.runtime_Semrelease", "(*sync.WaitGroup).Done", "(*sync.WaitGroup).Wait", "internal/race.Acquire", "internal/synctest.IsAssociated[sync.WaitGroup]", "sync/atomic.CompareAndSwapUint64", "internal/race.Write", "sync.runtime_SemacquireWaitGroup"], unfollowed := true, recurses := true, leaving := true, apart := false, narrowed := true }
def FnExactDotRealsUptoSaid : Prop := fnExactDotRealsUptoRow.holds Try.pinned (OpenSpec.upto fnExactDotRealsSpec)

/-- 'laws.FnExactNormReal', WHERE WHAT IT READS IS OF BULK AT MOST 1048576: true; the input reads as it did. -/
def fnExactNormRealUptoRow : OpenClaim := { program := "ytjamfjhdeijbpab", sum := "9c479c0eb8f734ddd5ccbd2d1d6926f0644d973494a8c433f74cfc9be147671c", func := "loop.example/g00047/laws.FnExactNormReal", spec := "fnExactNormReal", inPlace := ["math.Float64bits", "math.Float64frombits", "math.sqrt", "(*sync.WaitGroup).Add", "internal/race.ReleaseMerge", "internal/race.Disable", "internal/race.Enable", "internal/synctest.IsInBubble", "internal/synctest.Associate[sync.WaitGroup]", "sync.fatal", "sync/atomic.OrUint64", "sync/atomic.AddUint64", "internal/race.Read", "sync/atomic.LoadUint64", "sync/atomic.StoreUint64", "internal/synctest.Disassociate[sync.WaitGroup]", "sync.runtime_Semrelease", "(*sync.WaitGroup).Done", "(*sync.WaitGroup).Wait", "internal/race.Acquire", "internal/synctest.IsAssociated[sync.WaitGroup]", "sync/atomic.CompareAndSwapUint64", "internal/race.Write", "sync.runtime_SemacquireWaitGroup"], unfollowed := true, recurses := true, leaving := true, apart := false, narrowed := true }
def FnExactNormRealUptoSaid : Prop := fnExactNormRealUptoRow.holds Try.pinned (OpenSpec.upto fnExactNormRealSpec)

end Rows
end Go.Proofs.Ytjamfjhdeijbpab
