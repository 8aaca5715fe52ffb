/-
  No cell of these rows narrows 'for every input' (looked for: loops, veiled, ifaces, maps, wideKeys, modest, calm, conditions, laid).
  DERIVED. THE GIVEN ROWS OF THIS SEAT. 5 by the template 'for every input the law returns true; each argument reads behind the call as it read before'; 0 by the template 'total and deterministic' (their statements: YteknkgfgefhloaaTotals.lean).
  GIVEN WITH THE SEED: the statements are not yours to turn. If you find one false, say at which input.
  Laid BY PROGRAM, IN A SANDBOX (cutbox-rows.mjs): the forced cells as the released guide's own fill.sh prints them over the translation 68b8f1e8d41456e0… (all of the seat's roots in one cut). By AI agents, Wed Nov 11 2026. No macro, syntax, notation, axiom, sorry.
-/
import Derived.Test.YteknkgfgefhloaaChecked
import GoSem.Claim
import GoSem.ClaimJoined
import GoSem.ClaimMapViews
import Derived.JoinedTies
import Derived.KernelRfl
namespace Go.Proofs.Yteknkgfgefhloaa
/- THE CELL 'sum', in the pinned program and in every row, IS THE sha256 OF THE DUMP (.gsa) THAT YteknkgfgefhloaaProg.lean LOADS. Nothing in Lean hashes anything: it is a label: what it is worth is what the hold of that sum in a sandbox is worth. -/
noncomputable def Try.pinned : Pinned := { name := "yteknkgfgefhloaa", sum := "68b8f1e8d41456e0393d55a55c359b4b4688cd40706499f8bb712131d393f98f", checked := Try.checked }
namespace Rows
def none {H : Type} : Left H := { results := [], args := [] }

/-- 'laws.FnMerge': WHATEVER THE INPUT: true; the input reads as it did. -/
def fnMergeSpec : ChangeSpec := { name := "fnMerge", fn := fun _ => fun
  | [d] => { results := [.lit (.bool true)], args := [d] }
  | _ => none }
def fnMergeRow : OpenClaim := { program := "yteknkgfgefhloaa", sum := "68b8f1e8d41456e0393d55a55c359b4b4688cd40706499f8bb712131d393f98f", func := "loop.example/g00047/laws.FnMerge", spec := "fnMerge", unfollowed := true, recurses := true, apart := false }
def FnMergeSaid : Prop := fnMergeRow.holds Try.pinned (OpenSpec.ofChange fnMergeSpec)

/-- ITS FALSE NEIGHBOUR: 'it returns false'. Refute it at one input. -/
def fnMergeWrong : ChangeSpec := { name := "fnMerge", fn := fun _ => fun
  | [d] => { results := [.lit (.bool false)], args := [d] }
  | _ => none }
def FnMergeWrongFalsely : Prop := fnMergeRow.holds Try.pinned (OpenSpec.ofChange fnMergeWrong)

/-- 'laws.FnExactKeepLast': WHATEVER THE INPUT: true; the input reads as it did. -/
def fnExactKeepLastSpec : ChangeSpec := { name := "fnExactKeepLast", fn := fun _ => fun
  | [d1, d2, d3] => { results := [.lit (.bool true)], args := [d1, d2, d3] }
  | _ => none }
def fnExactKeepLastRow : OpenClaim := { program := "yteknkgfgefhloaa", sum := "68b8f1e8d41456e0393d55a55c359b4b4688cd40706499f8bb712131d393f98f", func := "loop.example/g00047/laws.FnExactKeepLast", spec := "fnExactKeepLast", apart := false }
def FnExactKeepLastSaid : Prop := fnExactKeepLastRow.holds Try.pinned (OpenSpec.ofChange fnExactKeepLastSpec)

/-- ITS FALSE NEIGHBOUR: 'it returns false'. Refute it at one input. -/
def fnExactKeepLastWrong : ChangeSpec := { name := "fnExactKeepLast", fn := fun _ => fun
  | [d1, d2, d3] => { results := [.lit (.bool false)], args := [d1, d2, d3] }
  | _ => none }
def FnExactKeepLastWrongFalsely : Prop := fnExactKeepLastRow.holds Try.pinned (OpenSpec.ofChange fnExactKeepLastWrong)

/-- 'laws.FnExactSendNext': WHATEVER THE INPUT: true; the input reads as it did. -/
def fnExactSendNextSpec : ChangeSpec := { name := "fnExactSendNext", fn := fun _ => fun
  | [d1, d2] => { results := [.lit (.bool true)], args := [d1, d2] }
  | _ => none }
def fnExactSendNextRow : OpenClaim := { program := "yteknkgfgefhloaa", sum := "68b8f1e8d41456e0393d55a55c359b4b4688cd40706499f8bb712131d393f98f", func := "loop.example/g00047/laws.FnExactSendNext", spec := "fnExactSendNext", apart := false }
def FnExactSendNextSaid : Prop := fnExactSendNextRow.holds Try.pinned (OpenSpec.ofChange fnExactSendNextSpec)

/-- ITS FALSE NEIGHBOUR: 'it returns false'. Refute it at one input. -/
def fnExactSendNextWrong : ChangeSpec := { name := "fnExactSendNext", fn := fun _ => fun
  | [d1, d2] => { results := [.lit (.bool false)], args := [d1, d2] }
  | _ => none }
def FnExactSendNextWrongFalsely : Prop := fnExactSendNextRow.holds Try.pinned (OpenSpec.ofChange fnExactSendNextWrong)

/-- 'laws.FnExactTakeParcels': WHATEVER THE INPUT: true; the input reads as it did. -/
def fnExactTakeParcelsSpec : ChangeSpec := { name := "fnExactTakeParcels", fn := fun _ => fun
  | [d1, d2] => { results := [.lit (.bool true)], args := [d1, d2] }
  | _ => none }
def fnExactTakeParcelsRow : OpenClaim := { program := "yteknkgfgefhloaa", sum := "68b8f1e8d41456e0393d55a55c359b4b4688cd40706499f8bb712131d393f98f", func := "loop.example/g00047/laws.FnExactTakeParcels", spec := "fnExactTakeParcels", apart := false }
def FnExactTakeParcelsSaid : Prop := fnExactTakeParcelsRow.holds Try.pinned (OpenSpec.ofChange fnExactTakeParcelsSpec)

/-- ITS FALSE NEIGHBOUR: 'it returns false'. Refute it at one input. -/
def fnExactTakeParcelsWrong : ChangeSpec := { name := "fnExactTakeParcels", fn := fun _ => fun
  | [d1, d2] => { results := [.lit (.bool false)], args := [d1, d2] }
  | _ => none }
def FnExactTakeParcelsWrongFalsely : Prop := fnExactTakeParcelsRow.holds Try.pinned (OpenSpec.ofChange fnExactTakeParcelsWrong)

/-- 'laws.FnExactMergeStamped': WHATEVER THE INPUT: true; the input reads as it did. -/
def fnExactMergeStampedSpec : ChangeSpec := { name := "fnExactMergeStamped", fn := fun _ => fun
  | [d1, d2] => { results := [.lit (.bool true)], args := [d1, d2] }
  | _ => none }
def fnExactMergeStampedRow : OpenClaim := { program := "yteknkgfgefhloaa", sum := "68b8f1e8d41456e0393d55a55c359b4b4688cd40706499f8bb712131d393f98f", func := "loop.example/g00047/laws.FnExactMergeStamped", spec := "fnExactMergeStamped", unfollowed := true, recurses := true, apart := false }
def FnExactMergeStampedSaid : Prop := fnExactMergeStampedRow.holds Try.pinned (OpenSpec.ofChange fnExactMergeStampedSpec)

/-- ITS FALSE NEIGHBOUR: 'it returns false'. Refute it at one input. -/
def fnExactMergeStampedWrong : ChangeSpec := { name := "fnExactMergeStamped", fn := fun _ => fun
  | [d1, d2] => { results := [.lit (.bool false)], args := [d1, d2] }
  | _ => none }
def FnExactMergeStampedWrongFalsely : Prop := fnExactMergeStampedRow.holds Try.pinned (OpenSpec.ofChange fnExactMergeStampedWrong)

/- THE SECOND FORM. 'bulk': how many values and letters a reading holds, each counted each time it is reached (what is shared counts as often as it is met; a slice's spare places count too). A statement '..UptoSaid' is the law's where the arguments, and the package variables that the reading takes, are together of bulk at most 1048576: NARROWER than '..Said'. Prove '..Said' where nothing that the law and all that it calls make is longer than what came in: it says more and counts as full. Else prove '..UptoSaid'. A law counts once. -/
mutual
def uptoBulk {H : Type} : DataW H → Nat
  | .lit (.string bytes) => bytes.length + 1
  | .lit _ => 1
  | .nil => 1
  | .ptr d => uptoBulk d + 1
  | .slice elems spare => uptoBulkAll elems + uptoBulkAll spare + 1
  | .agg parts => uptoBulkAll parts + 1
  | .iface _ d => uptoBulk d + 1
  | .map entries => uptoBulkEntries entries + 1
  | .held _ => 1
def uptoBulkAll {H : Type} : List (DataW H) → Nat
  | [] => 0
  | d :: r => uptoBulk d + uptoBulkAll r
def uptoBulkEntries {H : Type} : List (Lit × DataW H) → Nat
  | [] => 0
  | x :: r => uptoBulkEntry x + uptoBulkEntries r
def uptoBulkEntry {H : Type} : Lit × DataW H → Nat
  | (.string bytes, d) => bytes.length + uptoBulk d + 1
  | (_, d) => uptoBulk d + 1
 end
def uptoSmall : (H : Type) → List (DataW H) → Bool := fun _ ds => decide (uptoBulkAll ds ≤ 1048576)
def OpenSpec.upto (s : _root_.Go.ChangeSpec) : _root_.Go.OpenSpec := { _root_.Go.OpenSpec.ofChange s with cond := some uptoSmall }

/-- 'laws.FnMerge', WHERE WHAT IT READS IS OF BULK AT MOST 1048576: true; the input reads as it did. -/
def fnMergeUptoRow : OpenClaim := { program := "yteknkgfgefhloaa", sum := "68b8f1e8d41456e0393d55a55c359b4b4688cd40706499f8bb712131d393f98f", func := "loop.example/g00047/laws.FnMerge", spec := "fnMerge", unfollowed := true, recurses := true, apart := false, narrowed := true }
def FnMergeUptoSaid : Prop := fnMergeUptoRow.holds Try.pinned (OpenSpec.upto fnMergeSpec)

/-- 'laws.FnExactKeepLast', WHERE WHAT IT READS IS OF BULK AT MOST 1048576: true; the input reads as it did. -/
def fnExactKeepLastUptoRow : OpenClaim := { program := "yteknkgfgefhloaa", sum := "68b8f1e8d41456e0393d55a55c359b4b4688cd40706499f8bb712131d393f98f", func := "loop.example/g00047/laws.FnExactKeepLast", spec := "fnExactKeepLast", apart := false, narrowed := true }
def FnExactKeepLastUptoSaid : Prop := fnExactKeepLastUptoRow.holds Try.pinned (OpenSpec.upto fnExactKeepLastSpec)

/-- 'laws.FnExactSendNext', WHERE WHAT IT READS IS OF BULK AT MOST 1048576: true; the input reads as it did. -/
def fnExactSendNextUptoRow : OpenClaim := { program := "yteknkgfgefhloaa", sum := "68b8f1e8d41456e0393d55a55c359b4b4688cd40706499f8bb712131d393f98f", func := "loop.example/g00047/laws.FnExactSendNext", spec := "fnExactSendNext", apart := false, narrowed := true }
def FnExactSendNextUptoSaid : Prop := fnExactSendNextUptoRow.holds Try.pinned (OpenSpec.upto fnExactSendNextSpec)

/-- 'laws.FnExactTakeParcels', WHERE WHAT IT READS IS OF BULK AT MOST 1048576: true; the input reads as it did. -/
def fnExactTakeParcelsUptoRow : OpenClaim := { program := "yteknkgfgefhloaa", sum := "68b8f1e8d41456e0393d55a55c359b4b4688cd40706499f8bb712131d393f98f", func := "loop.example/g00047/laws.FnExactTakeParcels", spec := "fnExactTakeParcels", apart := false, narrowed := true }
def FnExactTakeParcelsUptoSaid : Prop := fnExactTakeParcelsUptoRow.holds Try.pinned (OpenSpec.upto fnExactTakeParcelsSpec)

/-- 'laws.FnExactMergeStamped', WHERE WHAT IT READS IS OF BULK AT MOST 1048576: true; the input reads as it did. -/
def fnExactMergeStampedUptoRow : OpenClaim := { program := "yteknkgfgefhloaa", sum := "68b8f1e8d41456e0393d55a55c359b4b4688cd40706499f8bb712131d393f98f", func := "loop.example/g00047/laws.FnExactMergeStamped", spec := "fnExactMergeStamped", unfollowed := true, recurses := true, apart := false, narrowed := true }
def FnExactMergeStampedUptoSaid : Prop := fnExactMergeStampedUptoRow.holds Try.pinned (OpenSpec.upto fnExactMergeStampedSpec)

end Rows
end Go.Proofs.Yteknkgfgefhloaa
