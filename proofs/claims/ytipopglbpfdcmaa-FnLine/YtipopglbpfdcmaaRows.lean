/-
  No cell of these rows narrows 'for every input' (looked for: loops, veiled, ifaces, maps, wideKeys, modest, calm, conditions, laid).
  DERIVED. THE GIVEN ROWS OF THIS SEAT. 5 by the template 'for every input the law returns true; each argument reads behind the call as it read before'; 0 by the template 'total and deterministic' (their statements: YtipopglbpfdcmaaTotals.lean).
  GIVEN WITH THE SEED: the statements are not yours to turn. If you find one false, say at which input.
  Laid BY PROGRAM, IN A SANDBOX (cutbox-rows.mjs): the forced cells as the released guide's own fill.sh prints them over the translation 8636cef6339ef688… (all of the seat's roots in one cut). By AI agents, Wed Nov 11 2026. No macro, syntax, notation, axiom, sorry.
-/
import Derived.Test.YtipopglbpfdcmaaChecked
import GoSem.Claim
import GoSem.ClaimJoined
import GoSem.ClaimMapViews
import Derived.JoinedTies
import Derived.KernelRfl
namespace Go.Proofs.Ytipopglbpfdcmaa
/- THE CELL 'sum', in the pinned program and in every row, IS THE sha256 OF THE DUMP (.gsa) THAT YtipopglbpfdcmaaProg.lean LOADS. Nothing in Lean hashes anything: it is a label: what it is worth is what the hold of that sum in a sandbox is worth. -/
noncomputable def Try.pinned : Pinned := { name := "ytipopglbpfdcmaa", sum := "8636cef6339ef6889bc70926f4152f2fbaf86407ef4567b4e6064af32f0845e1", checked := Try.checked }
namespace Rows
def none {H : Type} : Left H := { results := [], args := [] }

/-- 'laws.FnLine': WHATEVER THE INPUT: true; the input reads as it did. -/
def fnLineSpec : ChangeSpec := { name := "fnLine", fn := fun _ => fun
  | [d] => { results := [.lit (.bool true)], args := [d] }
  | _ => none }
def fnLineRow : OpenClaim := { program := "ytipopglbpfdcmaa", sum := "8636cef6339ef6889bc70926f4152f2fbaf86407ef4567b4e6064af32f0845e1", func := "loop.example/g00047/laws.FnLine", spec := "fnLine", apart := false }
def FnLineSaid : Prop := fnLineRow.holds Try.pinned (OpenSpec.ofChange fnLineSpec)

/-- ITS FALSE NEIGHBOUR: 'it returns false'. Refute it at one input. -/
def fnLineWrong : ChangeSpec := { name := "fnLine", fn := fun _ => fun
  | [d] => { results := [.lit (.bool false)], args := [d] }
  | _ => none }
def FnLineWrongFalsely : Prop := fnLineRow.holds Try.pinned (OpenSpec.ofChange fnLineWrong)

/-- 'laws.FnCounts': WHATEVER THE INPUT: true; the input reads as it did. -/
def fnCountsSpec : ChangeSpec := { name := "fnCounts", fn := fun _ => fun
  | [d1, d2] => { results := [.lit (.bool true)], args := [d1, d2] }
  | _ => none }
def fnCountsRow : OpenClaim := { program := "ytipopglbpfdcmaa", sum := "8636cef6339ef6889bc70926f4152f2fbaf86407ef4567b4e6064af32f0845e1", func := "loop.example/g00047/laws.FnCounts", spec := "fnCounts", apart := false }
def FnCountsSaid : Prop := fnCountsRow.holds Try.pinned (OpenSpec.ofChange fnCountsSpec)

/-- ITS FALSE NEIGHBOUR: 'it returns false'. Refute it at one input. -/
def fnCountsWrong : ChangeSpec := { name := "fnCounts", fn := fun _ => fun
  | [d1, d2] => { results := [.lit (.bool false)], args := [d1, d2] }
  | _ => none }
def FnCountsWrongFalsely : Prop := fnCountsRow.holds Try.pinned (OpenSpec.ofChange fnCountsWrong)

/-- 'laws.FnExactLineCells': WHATEVER THE INPUT: true; the input reads as it did. -/
def fnExactLineCellsSpec : ChangeSpec := { name := "fnExactLineCells", fn := fun _ => fun
  | [d1, d2, d3, d4] => { results := [.lit (.bool true)], args := [d1, d2, d3, d4] }
  | _ => none }
def fnExactLineCellsRow : OpenClaim := { program := "ytipopglbpfdcmaa", sum := "8636cef6339ef6889bc70926f4152f2fbaf86407ef4567b4e6064af32f0845e1", func := "loop.example/g00047/laws.FnExactLineCells", spec := "fnExactLineCells", apart := false }
def FnExactLineCellsSaid : Prop := fnExactLineCellsRow.holds Try.pinned (OpenSpec.ofChange fnExactLineCellsSpec)

/-- ITS FALSE NEIGHBOUR: 'it returns false'. Refute it at one input. -/
def fnExactLineCellsWrong : ChangeSpec := { name := "fnExactLineCells", fn := fun _ => fun
  | [d1, d2, d3, d4] => { results := [.lit (.bool false)], args := [d1, d2, d3, d4] }
  | _ => none }
def FnExactLineCellsWrongFalsely : Prop := fnExactLineCellsRow.holds Try.pinned (OpenSpec.ofChange fnExactLineCellsWrong)

/-- 'laws.FnExactGoodCounts': WHATEVER THE INPUT: true; the input reads as it did. -/
def fnExactGoodCountsSpec : ChangeSpec := { name := "fnExactGoodCounts", fn := fun _ => fun
  | [d] => { results := [.lit (.bool true)], args := [d] }
  | _ => none }
def fnExactGoodCountsRow : OpenClaim := { program := "ytipopglbpfdcmaa", sum := "8636cef6339ef6889bc70926f4152f2fbaf86407ef4567b4e6064af32f0845e1", func := "loop.example/g00047/laws.FnExactGoodCounts", spec := "fnExactGoodCounts", apart := false }
def FnExactGoodCountsSaid : Prop := fnExactGoodCountsRow.holds Try.pinned (OpenSpec.ofChange fnExactGoodCountsSpec)

/-- ITS FALSE NEIGHBOUR: 'it returns false'. Refute it at one input. -/
def fnExactGoodCountsWrong : ChangeSpec := { name := "fnExactGoodCounts", fn := fun _ => fun
  | [d] => { results := [.lit (.bool false)], args := [d] }
  | _ => none }
def FnExactGoodCountsWrongFalsely : Prop := fnExactGoodCountsRow.holds Try.pinned (OpenSpec.ofChange fnExactGoodCountsWrong)

/-- 'laws.FnExactNewCounts': WHATEVER THE INPUT: true; the input reads as it did. -/
def fnExactNewCountsSpec : ChangeSpec := { name := "fnExactNewCounts", fn := fun _ => fun
  | [d1, d2] => { results := [.lit (.bool true)], args := [d1, d2] }
  | _ => none }
def fnExactNewCountsRow : OpenClaim := { program := "ytipopglbpfdcmaa", sum := "8636cef6339ef6889bc70926f4152f2fbaf86407ef4567b4e6064af32f0845e1", func := "loop.example/g00047/laws.FnExactNewCounts", spec := "fnExactNewCounts", apart := false }
def FnExactNewCountsSaid : Prop := fnExactNewCountsRow.holds Try.pinned (OpenSpec.ofChange fnExactNewCountsSpec)

/-- ITS FALSE NEIGHBOUR: 'it returns false'. Refute it at one input. -/
def fnExactNewCountsWrong : ChangeSpec := { name := "fnExactNewCounts", fn := fun _ => fun
  | [d1, d2] => { results := [.lit (.bool false)], args := [d1, d2] }
  | _ => none }
def FnExactNewCountsWrongFalsely : Prop := fnExactNewCountsRow.holds Try.pinned (OpenSpec.ofChange fnExactNewCountsWrong)

/- THE SECOND FORM. 'bulk': how many values and letters a reading holds, each counted each time it is reached (what is shared counts as often as it is met; a slice's spare places count too). A statement '..UptoSaid' is the law's where the arguments, and the package variables that the reading takes, are together of bulk at most 1048576: NARROWER than '..Said'. Prove '..Said' where nothing that the law and all that it calls make is longer than what came in: it says more and counts as full. Else prove '..UptoSaid'. A law counts once. -/
mutual
def uptoBulk {H : Type} : DataW H → Nat
  | .lit (.string bytes) => bytes.length + 1
  | .lit _ => 1
  | .nil => 1
  | .ptr d => uptoBulk d + 1
  | .slice elems spare => uptoBulkAll elems + uptoBulkAll spare + 1
  | .agg parts => uptoBulkAll parts + 1
  | .iface _ d => uptoBulk d + 1
  | .map entries => uptoBulkEntries entries + 1
  | .held _ => 1
def uptoBulkAll {H : Type} : List (DataW H) → Nat
  | [] => 0
  | d :: r => uptoBulk d + uptoBulkAll r
def uptoBulkEntries {H : Type} : List (Lit × DataW H) → Nat
  | [] => 0
  | x :: r => uptoBulkEntry x + uptoBulkEntries r
def uptoBulkEntry {H : Type} : Lit × DataW H → Nat
  | (.string bytes, d) => bytes.length + uptoBulk d + 1
  | (_, d) => uptoBulk d + 1
 end
def uptoSmall : (H : Type) → List (DataW H) → Bool := fun _ ds => decide (uptoBulkAll ds ≤ 1048576)
def OpenSpec.upto (s : _root_.Go.ChangeSpec) : _root_.Go.OpenSpec := { _root_.Go.OpenSpec.ofChange s with cond := some uptoSmall }

/-- 'laws.FnLine', WHERE WHAT IT READS IS OF BULK AT MOST 1048576: true; the input reads as it did. -/
def fnLineUptoRow : OpenClaim := { program := "ytipopglbpfdcmaa", sum := "8636cef6339ef6889bc70926f4152f2fbaf86407ef4567b4e6064af32f0845e1", func := "loop.example/g00047/laws.FnLine", spec := "fnLine", apart := false, narrowed := true }
def FnLineUptoSaid : Prop := fnLineUptoRow.holds Try.pinned (OpenSpec.upto fnLineSpec)

/-- 'laws.FnCounts', WHERE WHAT IT READS IS OF BULK AT MOST 1048576: true; the input reads as it did. -/
def fnCountsUptoRow : OpenClaim := { program := "ytipopglbpfdcmaa", sum := "8636cef6339ef6889bc70926f4152f2fbaf86407ef4567b4e6064af32f0845e1", func := "loop.example/g00047/laws.FnCounts", spec := "fnCounts", apart := false, narrowed := true }
def FnCountsUptoSaid : Prop := fnCountsUptoRow.holds Try.pinned (OpenSpec.upto fnCountsSpec)

/-- 'laws.FnExactLineCells', WHERE WHAT IT READS IS OF BULK AT MOST 1048576: true; the input reads as it did. -/
def fnExactLineCellsUptoRow : OpenClaim := { program := "ytipopglbpfdcmaa", sum := "8636cef6339ef6889bc70926f4152f2fbaf86407ef4567b4e6064af32f0845e1", func := "loop.example/g00047/laws.FnExactLineCells", spec := "fnExactLineCells", apart := false, narrowed := true }
def FnExactLineCellsUptoSaid : Prop := fnExactLineCellsUptoRow.holds Try.pinned (OpenSpec.upto fnExactLineCellsSpec)

/-- 'laws.FnExactGoodCounts', WHERE WHAT IT READS IS OF BULK AT MOST 1048576: true; the input reads as it did. -/
def fnExactGoodCountsUptoRow : OpenClaim := { program := "ytipopglbpfdcmaa", sum := "8636cef6339ef6889bc70926f4152f2fbaf86407ef4567b4e6064af32f0845e1", func := "loop.example/g00047/laws.FnExactGoodCounts", spec := "fnExactGoodCounts", apart := false, narrowed := true }
def FnExactGoodCountsUptoSaid : Prop := fnExactGoodCountsUptoRow.holds Try.pinned (OpenSpec.upto fnExactGoodCountsSpec)

/-- 'laws.FnExactNewCounts', WHERE WHAT IT READS IS OF BULK AT MOST 1048576: true; the input reads as it did. -/
def fnExactNewCountsUptoRow : OpenClaim := { program := "ytipopglbpfdcmaa", sum := "8636cef6339ef6889bc70926f4152f2fbaf86407ef4567b4e6064af32f0845e1", func := "loop.example/g00047/laws.FnExactNewCounts", spec := "fnExactNewCounts", apart := false, narrowed := true }
def FnExactNewCountsUptoSaid : Prop := fnExactNewCountsUptoRow.holds Try.pinned (OpenSpec.upto fnExactNewCountsSpec)

end Rows
end Go.Proofs.Ytipopglbpfdcmaa
