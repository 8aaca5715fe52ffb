/-
  No cell of these rows narrows 'for every input' (looked for: loops, veiled, ifaces, maps, wideKeys, modest, calm, conditions, laid).
  DERIVED. THE GIVEN ROWS OF THIS SEAT. 6 by the template 'for every input the law returns true; each argument reads behind the call as it read before'; 0 by the template 'total and deterministic' (their statements: YtfciecoigfnnhaaTotals.lean).
  GIVEN WITH THE SEED: the statements are not yours to turn. If you find one false, say at which input.
  Laid BY PROGRAM, IN A SANDBOX (cutbox-rows.mjs): the forced cells as the released guide's own fill.sh prints them over the translation 3a00bf16b1363cdc… (all of the seat's roots in one cut). By AI agents, Wed Nov 11 2026. No macro, syntax, notation, axiom, sorry.
-/
import Derived.Test.YtfciecoigfnnhaaChecked
import GoSem.Claim
import GoSem.ClaimJoined
import GoSem.ClaimMapViews
import Derived.JoinedTies
import Derived.KernelRfl
namespace Go.Proofs.Ytfciecoigfnnhaa
/- THE CELL 'sum', in the pinned program and in every row, IS THE sha256 OF THE DUMP (.gsa) THAT YtfciecoigfnnhaaProg.lean LOADS. Nothing in Lean hashes anything: it is a label: what it is worth is what the hold of that sum in a sandbox is worth. -/
noncomputable def Try.pinned : Pinned := { name := "ytfciecoigfnnhaa", sum := "3a00bf16b1363cdc1f3b0bce7d27ee2ecd72789dfc76cdd691181d3a7938ebcc", checked := Try.checked }
namespace Rows
def none {H : Type} : Left H := { results := [], args := [] }

/-- 'laws.FnWays': WHATEVER THE INPUT: true; the input reads as it did. -/
def fnWaysSpec : ChangeSpec := { name := "fnWays", fn := fun _ => fun
  | [d1, d2] => { results := [.lit (.bool true)], args := [d1, d2] }
  | _ => none }
def fnWaysRow : OpenClaim := { program := "ytfciecoigfnnhaa", sum := "3a00bf16b1363cdc1f3b0bce7d27ee2ecd72789dfc76cdd691181d3a7938ebcc", func := "loop.example/g00047/laws.FnWays", spec := "fnWays", unfollowed := true, recurses := true, apart := false }
def FnWaysSaid : Prop := fnWaysRow.holds Try.pinned (OpenSpec.ofChange fnWaysSpec)

/-- ITS FALSE NEIGHBOUR: 'it returns false'. Refute it at one input. -/
def fnWaysWrong : ChangeSpec := { name := "fnWays", fn := fun _ => fun
  | [d1, d2] => { results := [.lit (.bool false)], args := [d1, d2] }
  | _ => none }
def FnWaysWrongFalsely : Prop := fnWaysRow.holds Try.pinned (OpenSpec.ofChange fnWaysWrong)

/-- 'laws.FnExactBoxMeet': WHATEVER THE INPUT: true; the input reads as it did. -/
def fnExactBoxMeetSpec : ChangeSpec := { name := "fnExactBoxMeet", fn := fun _ => fun
  | [d1, d2] => { results := [.lit (.bool true)], args := [d1, d2] }
  | _ => none }
def fnExactBoxMeetRow : OpenClaim := { program := "ytfciecoigfnnhaa", sum := "3a00bf16b1363cdc1f3b0bce7d27ee2ecd72789dfc76cdd691181d3a7938ebcc", func := "loop.example/g00047/laws.FnExactBoxMeet", spec := "fnExactBoxMeet", inPlace := ["math.Float64bits", "math.Float64frombits"], unfollowed := true, recurses := true, apart := false }
def FnExactBoxMeetSaid : Prop := fnExactBoxMeetRow.holds Try.pinned (OpenSpec.ofChange fnExactBoxMeetSpec)

/-- ITS FALSE NEIGHBOUR: 'it returns false'. Refute it at one input. -/
def fnExactBoxMeetWrong : ChangeSpec := { name := "fnExactBoxMeet", fn := fun _ => fun
  | [d1, d2] => { results := [.lit (.bool false)], args := [d1, d2] }
  | _ => none }
def FnExactBoxMeetWrongFalsely : Prop := fnExactBoxMeetRow.holds Try.pinned (OpenSpec.ofChange fnExactBoxMeetWrong)

/-- 'laws.FnExactBoxHull': WHATEVER THE INPUT: true; the input reads as it did. -/
def fnExactBoxHullSpec : ChangeSpec := { name := "fnExactBoxHull", fn := fun _ => fun
  | [d1, d2] => { results := [.lit (.bool true)], args := [d1, d2] }
  | _ => none }
def fnExactBoxHullRow : OpenClaim := { program := "ytfciecoigfnnhaa", sum := "3a00bf16b1363cdc1f3b0bce7d27ee2ecd72789dfc76cdd691181d3a7938ebcc", func := "loop.example/g00047/laws.FnExactBoxHull", spec := "fnExactBoxHull", inPlace := ["math.Float64bits", "math.Float64frombits"], unfollowed := true, recurses := true, apart := false }
def FnExactBoxHullSaid : Prop := fnExactBoxHullRow.holds Try.pinned (OpenSpec.ofChange fnExactBoxHullSpec)

/-- ITS FALSE NEIGHBOUR: 'it returns false'. Refute it at one input. -/
def fnExactBoxHullWrong : ChangeSpec := { name := "fnExactBoxHull", fn := fun _ => fun
  | [d1, d2] => { results := [.lit (.bool false)], args := [d1, d2] }
  | _ => none }
def FnExactBoxHullWrongFalsely : Prop := fnExactBoxHullRow.holds Try.pinned (OpenSpec.ofChange fnExactBoxHullWrong)

/-- 'laws.FnExactCmpCost': WHATEVER THE INPUT: true; the input reads as it did. -/
def fnExactCmpCostSpec : ChangeSpec := { name := "fnExactCmpCost", fn := fun _ => fun
  | [d1, d2, d3, d4] => { results := [.lit (.bool true)], args := [d1, d2, d3, d4] }
  | _ => none }
def fnExactCmpCostRow : OpenClaim := { program := "ytfciecoigfnnhaa", sum := "3a00bf16b1363cdc1f3b0bce7d27ee2ecd72789dfc76cdd691181d3a7938ebcc", func := "loop.example/g00047/laws.FnExactCmpCost", spec := "fnExactCmpCost", apart := false }
def FnExactCmpCostSaid : Prop := fnExactCmpCostRow.holds Try.pinned (OpenSpec.ofChange fnExactCmpCostSpec)

/-- ITS FALSE NEIGHBOUR: 'it returns false'. Refute it at one input. -/
def fnExactCmpCostWrong : ChangeSpec := { name := "fnExactCmpCost", fn := fun _ => fun
  | [d1, d2, d3, d4] => { results := [.lit (.bool false)], args := [d1, d2, d3, d4] }
  | _ => none }
def FnExactCmpCostWrongFalsely : Prop := fnExactCmpCostRow.holds Try.pinned (OpenSpec.ofChange fnExactCmpCostWrong)

/-- 'laws.FnExactWayCost': WHATEVER THE INPUT: true; the input reads as it did. -/
def fnExactWayCostSpec : ChangeSpec := { name := "fnExactWayCost", fn := fun _ => fun
  | [d1, d2] => { results := [.lit (.bool true)], args := [d1, d2] }
  | _ => none }
def fnExactWayCostRow : OpenClaim := { program := "ytfciecoigfnnhaa", sum := "3a00bf16b1363cdc1f3b0bce7d27ee2ecd72789dfc76cdd691181d3a7938ebcc", func := "loop.example/g00047/laws.FnExactWayCost", spec := "fnExactWayCost", apart := false }
def FnExactWayCostSaid : Prop := fnExactWayCostRow.holds Try.pinned (OpenSpec.ofChange fnExactWayCostSpec)

/-- ITS FALSE NEIGHBOUR: 'it returns false'. Refute it at one input. -/
def fnExactWayCostWrong : ChangeSpec := { name := "fnExactWayCost", fn := fun _ => fun
  | [d1, d2] => { results := [.lit (.bool false)], args := [d1, d2] }
  | _ => none }
def FnExactWayCostWrongFalsely : Prop := fnExactWayCostRow.holds Try.pinned (OpenSpec.ofChange fnExactWayCostWrong)

/-- 'laws.FnExactShortestWay': WHATEVER THE INPUT: true; the input reads as it did. -/
def fnExactShortestWaySpec : ChangeSpec := { name := "fnExactShortestWay", fn := fun _ => fun
  | [d1, d2, d3] => { results := [.lit (.bool true)], args := [d1, d2, d3] }
  | _ => none }
def fnExactShortestWayRow : OpenClaim := { program := "ytfciecoigfnnhaa", sum := "3a00bf16b1363cdc1f3b0bce7d27ee2ecd72789dfc76cdd691181d3a7938ebcc", func := "loop.example/g00047/laws.FnExactShortestWay", spec := "fnExactShortestWay", unfollowed := true, recurses := true, apart := false }
def FnExactShortestWaySaid : Prop := fnExactShortestWayRow.holds Try.pinned (OpenSpec.ofChange fnExactShortestWaySpec)

/-- ITS FALSE NEIGHBOUR: 'it returns false'. Refute it at one input. -/
def fnExactShortestWayWrong : ChangeSpec := { name := "fnExactShortestWay", fn := fun _ => fun
  | [d1, d2, d3] => { results := [.lit (.bool false)], args := [d1, d2, d3] }
  | _ => none }
def FnExactShortestWayWrongFalsely : Prop := fnExactShortestWayRow.holds Try.pinned (OpenSpec.ofChange fnExactShortestWayWrong)

/- THE SECOND FORM. 'bulk': how many values and letters a reading holds, each counted each time it is reached (what is shared counts as often as it is met; a slice's spare places count too). A statement '..UptoSaid' is the law's where the arguments, and the package variables that the reading takes, are together of bulk at most 1048576: NARROWER than '..Said'. Prove '..Said' where nothing that the law and all that it calls make is longer than what came in: it says more and counts as full. Else prove '..UptoSaid'. A law counts once. -/
mutual
def uptoBulk {H : Type} : DataW H → Nat
  | .lit (.string bytes) => bytes.length + 1
  | .lit _ => 1
  | .nil => 1
  | .ptr d => uptoBulk d + 1
  | .slice elems spare => uptoBulkAll elems + uptoBulkAll spare + 1
  | .agg parts => uptoBulkAll parts + 1
  | .iface _ d => uptoBulk d + 1
  | .map entries => uptoBulkEntries entries + 1
  | .held _ => 1
def uptoBulkAll {H : Type} : List (DataW H) → Nat
  | [] => 0
  | d :: r => uptoBulk d + uptoBulkAll r
def uptoBulkEntries {H : Type} : List (Lit × DataW H) → Nat
  | [] => 0
  | x :: r => uptoBulkEntry x + uptoBulkEntries r
def uptoBulkEntry {H : Type} : Lit × DataW H → Nat
  | (.string bytes, d) => bytes.length + uptoBulk d + 1
  | (_, d) => uptoBulk d + 1
 end
def uptoSmall : (H : Type) → List (DataW H) → Bool := fun _ ds => decide (uptoBulkAll ds ≤ 1048576)
def OpenSpec.upto (s : _root_.Go.ChangeSpec) : _root_.Go.OpenSpec := { _root_.Go.OpenSpec.ofChange s with cond := some uptoSmall }

/-- 'laws.FnWays', WHERE WHAT IT READS IS OF BULK AT MOST 1048576: true; the input reads as it did. -/
def fnWaysUptoRow : OpenClaim := { program := "ytfciecoigfnnhaa", sum := "3a00bf16b1363cdc1f3b0bce7d27ee2ecd72789dfc76cdd691181d3a7938ebcc", func := "loop.example/g00047/laws.FnWays", spec := "fnWays", unfollowed := true, recurses := true, apart := false, narrowed := true }
def FnWaysUptoSaid : Prop := fnWaysUptoRow.holds Try.pinned (OpenSpec.upto fnWaysSpec)

/-- 'laws.FnExactBoxMeet', WHERE WHAT IT READS IS OF BULK AT MOST 1048576: true; the input reads as it did. -/
def fnExactBoxMeetUptoRow : OpenClaim := { program := "ytfciecoigfnnhaa", sum := "3a00bf16b1363cdc1f3b0bce7d27ee2ecd72789dfc76cdd691181d3a7938ebcc", func := "loop.example/g00047/laws.FnExactBoxMeet", spec := "fnExactBoxMeet", inPlace := ["math.Float64bits", "math.Float64frombits"], unfollowed := true, recurses := true, apart := false, narrowed := true }
def FnExactBoxMeetUptoSaid : Prop := fnExactBoxMeetUptoRow.holds Try.pinned (OpenSpec.upto fnExactBoxMeetSpec)

/-- 'laws.FnExactBoxHull', WHERE WHAT IT READS IS OF BULK AT MOST 1048576: true; the input reads as it did. -/
def fnExactBoxHullUptoRow : OpenClaim := { program := "ytfciecoigfnnhaa", sum := "3a00bf16b1363cdc1f3b0bce7d27ee2ecd72789dfc76cdd691181d3a7938ebcc", func := "loop.example/g00047/laws.FnExactBoxHull", spec := "fnExactBoxHull", inPlace := ["math.Float64bits", "math.Float64frombits"], unfollowed := true, recurses := true, apart := false, narrowed := true }
def FnExactBoxHullUptoSaid : Prop := fnExactBoxHullUptoRow.holds Try.pinned (OpenSpec.upto fnExactBoxHullSpec)

/-- 'laws.FnExactCmpCost', WHERE WHAT IT READS IS OF BULK AT MOST 1048576: true; the input reads as it did. -/
def fnExactCmpCostUptoRow : OpenClaim := { program := "ytfciecoigfnnhaa", sum := "3a00bf16b1363cdc1f3b0bce7d27ee2ecd72789dfc76cdd691181d3a7938ebcc", func := "loop.example/g00047/laws.FnExactCmpCost", spec := "fnExactCmpCost", apart := false, narrowed := true }
def FnExactCmpCostUptoSaid : Prop := fnExactCmpCostUptoRow.holds Try.pinned (OpenSpec.upto fnExactCmpCostSpec)

/-- 'laws.FnExactWayCost', WHERE WHAT IT READS IS OF BULK AT MOST 1048576: true; the input reads as it did. -/
def fnExactWayCostUptoRow : OpenClaim := { program := "ytfciecoigfnnhaa", sum := "3a00bf16b1363cdc1f3b0bce7d27ee2ecd72789dfc76cdd691181d3a7938ebcc", func := "loop.example/g00047/laws.FnExactWayCost", spec := "fnExactWayCost", apart := false, narrowed := true }
def FnExactWayCostUptoSaid : Prop := fnExactWayCostUptoRow.holds Try.pinned (OpenSpec.upto fnExactWayCostSpec)

/-- 'laws.FnExactShortestWay', WHERE WHAT IT READS IS OF BULK AT MOST 1048576: true; the input reads as it did. -/
def fnExactShortestWayUptoRow : OpenClaim := { program := "ytfciecoigfnnhaa", sum := "3a00bf16b1363cdc1f3b0bce7d27ee2ecd72789dfc76cdd691181d3a7938ebcc", func := "loop.example/g00047/laws.FnExactShortestWay", spec := "fnExactShortestWay", unfollowed := true, recurses := true, apart := false, narrowed := true }
def FnExactShortestWayUptoSaid : Prop := fnExactShortestWayUptoRow.holds Try.pinned (OpenSpec.upto fnExactShortestWaySpec)

end Rows
end Go.Proofs.Ytfciecoigfnnhaa
