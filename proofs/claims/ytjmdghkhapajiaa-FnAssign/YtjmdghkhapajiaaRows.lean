/-
  No cell of these rows narrows 'for every input' (looked for: loops, veiled, ifaces, maps, wideKeys, modest, calm, conditions, laid).
  DERIVED. THE GIVEN ROWS OF THIS SEAT. 6 by the template 'for every input the law returns true; each argument reads behind the call as it read before'; 0 by the template 'total and deterministic' (their statements: YtjmdghkhapajiaaTotals.lean).
  GIVEN WITH THE SEED: the statements are not yours to turn. If you find one false, say at which input.
  Laid BY PROGRAM, IN A SANDBOX (cutbox-rows.mjs): the forced cells as the released guide's own fill.sh prints them over the translation 76f678f873685839… (all of the seat's roots in one cut). By AI agents, Wed Nov 11 2026. No macro, syntax, notation, axiom, sorry.
-/
import Derived.Test.YtjmdghkhapajiaaChecked
import GoSem.Claim
import GoSem.ClaimJoined
import GoSem.ClaimMapViews
import Derived.JoinedTies
import Derived.KernelRfl
namespace Go.Proofs.Ytjmdghkhapajiaa
/- THE CELL 'sum', in the pinned program and in every row, IS THE sha256 OF THE DUMP (.gsa) THAT YtjmdghkhapajiaaProg.lean LOADS. Nothing in Lean hashes anything: it is a label: what it is worth is what the hold of that sum in a sandbox is worth. -/
noncomputable def Try.pinned : Pinned := { name := "ytjmdghkhapajiaa", sum := "76f678f873685839f4162cb4441b69817ae9882c83276e17cbf14a7ac33c52a4", checked := Try.checked }
namespace Rows
def none {H : Type} : Left H := { results := [], args := [] }

/-- 'laws.FnAssign': WHATEVER THE INPUT: true; the input reads as it did. -/
def fnAssignSpec : ChangeSpec := { name := "fnAssign", fn := fun _ => fun
  | [d] => { results := [.lit (.bool true)], args := [d] }
  | _ => none }
def fnAssignRow : OpenClaim := { program := "ytjmdghkhapajiaa", sum := "76f678f873685839f4162cb4441b69817ae9882c83276e17cbf14a7ac33c52a4", func := "loop.example/g00047/laws.FnAssign", spec := "fnAssign", unfollowed := true, recurses := true, apart := false }
def FnAssignSaid : Prop := fnAssignRow.holds Try.pinned (OpenSpec.ofChange fnAssignSpec)

/-- ITS FALSE NEIGHBOUR: 'it returns false'. Refute it at one input. -/
def fnAssignWrong : ChangeSpec := { name := "fnAssign", fn := fun _ => fun
  | [d] => { results := [.lit (.bool false)], args := [d] }
  | _ => none }
def FnAssignWrongFalsely : Prop := fnAssignRow.holds Try.pinned (OpenSpec.ofChange fnAssignWrong)

/-- 'laws.FnHandOver': WHATEVER THE INPUT: true; the input reads as it did. -/
def fnHandOverSpec : ChangeSpec := { name := "fnHandOver", fn := fun _ => fun
  | [d] => { results := [.lit (.bool true)], args := [d] }
  | _ => none }
def fnHandOverRow : OpenClaim := { program := "ytjmdghkhapajiaa", sum := "76f678f873685839f4162cb4441b69817ae9882c83276e17cbf14a7ac33c52a4", func := "loop.example/g00047/laws.FnHandOver", spec := "fnHandOver", unfollowed := true, recurses := true, apart := false }
def FnHandOverSaid : Prop := fnHandOverRow.holds Try.pinned (OpenSpec.ofChange fnHandOverSpec)

/-- ITS FALSE NEIGHBOUR: 'it returns false'. Refute it at one input. -/
def fnHandOverWrong : ChangeSpec := { name := "fnHandOver", fn := fun _ => fun
  | [d] => { results := [.lit (.bool false)], args := [d] }
  | _ => none }
def FnHandOverWrongFalsely : Prop := fnHandOverRow.holds Try.pinned (OpenSpec.ofChange fnHandOverWrong)

/-- 'laws.FnExactGoodPrices': WHATEVER THE INPUT: true; the input reads as it did. -/
def fnExactGoodPricesSpec : ChangeSpec := { name := "fnExactGoodPrices", fn := fun _ => fun
  | [d] => { results := [.lit (.bool true)], args := [d] }
  | _ => none }
def fnExactGoodPricesRow : OpenClaim := { program := "ytjmdghkhapajiaa", sum := "76f678f873685839f4162cb4441b69817ae9882c83276e17cbf14a7ac33c52a4", func := "loop.example/g00047/laws.FnExactGoodPrices", spec := "fnExactGoodPrices", unfollowed := true, recurses := true, apart := false }
def FnExactGoodPricesSaid : Prop := fnExactGoodPricesRow.holds Try.pinned (OpenSpec.ofChange fnExactGoodPricesSpec)

/-- ITS FALSE NEIGHBOUR: 'it returns false'. Refute it at one input. -/
def fnExactGoodPricesWrong : ChangeSpec := { name := "fnExactGoodPrices", fn := fun _ => fun
  | [d] => { results := [.lit (.bool false)], args := [d] }
  | _ => none }
def FnExactGoodPricesWrongFalsely : Prop := fnExactGoodPricesRow.holds Try.pinned (OpenSpec.ofChange fnExactGoodPricesWrong)

/-- 'laws.FnExactAssignCost': WHATEVER THE INPUT: true; the input reads as it did. -/
def fnExactAssignCostSpec : ChangeSpec := { name := "fnExactAssignCost", fn := fun _ => fun
  | [d1, d2] => { results := [.lit (.bool true)], args := [d1, d2] }
  | _ => none }
def fnExactAssignCostRow : OpenClaim := { program := "ytjmdghkhapajiaa", sum := "76f678f873685839f4162cb4441b69817ae9882c83276e17cbf14a7ac33c52a4", func := "loop.example/g00047/laws.FnExactAssignCost", spec := "fnExactAssignCost", unfollowed := true, recurses := true, apart := false }
def FnExactAssignCostSaid : Prop := fnExactAssignCostRow.holds Try.pinned (OpenSpec.ofChange fnExactAssignCostSpec)

/-- ITS FALSE NEIGHBOUR: 'it returns false'. Refute it at one input. -/
def fnExactAssignCostWrong : ChangeSpec := { name := "fnExactAssignCost", fn := fun _ => fun
  | [d1, d2] => { results := [.lit (.bool false)], args := [d1, d2] }
  | _ => none }
def FnExactAssignCostWrongFalsely : Prop := fnExactAssignCostRow.holds Try.pinned (OpenSpec.ofChange fnExactAssignCostWrong)

/-- 'laws.FnExactBestAssign': WHATEVER THE INPUT: true; the input reads as it did. -/
def fnExactBestAssignSpec : ChangeSpec := { name := "fnExactBestAssign", fn := fun _ => fun
  | [d] => { results := [.lit (.bool true)], args := [d] }
  | _ => none }
def fnExactBestAssignRow : OpenClaim := { program := "ytjmdghkhapajiaa", sum := "76f678f873685839f4162cb4441b69817ae9882c83276e17cbf14a7ac33c52a4", func := "loop.example/g00047/laws.FnExactBestAssign", spec := "fnExactBestAssign", unfollowed := true, recurses := true, apart := false }
def FnExactBestAssignSaid : Prop := fnExactBestAssignRow.holds Try.pinned (OpenSpec.ofChange fnExactBestAssignSpec)

/-- ITS FALSE NEIGHBOUR: 'it returns false'. Refute it at one input. -/
def fnExactBestAssignWrong : ChangeSpec := { name := "fnExactBestAssign", fn := fun _ => fun
  | [d] => { results := [.lit (.bool false)], args := [d] }
  | _ => none }
def FnExactBestAssignWrongFalsely : Prop := fnExactBestAssignRow.holds Try.pinned (OpenSpec.ofChange fnExactBestAssignWrong)

/-- 'laws.FnExactDuesOf': WHATEVER THE INPUT: true; the input reads as it did. -/
def fnExactDuesOfSpec : ChangeSpec := { name := "fnExactDuesOf", fn := fun _ => fun
  | [d1, d2] => { results := [.lit (.bool true)], args := [d1, d2] }
  | _ => none }
def fnExactDuesOfRow : OpenClaim := { program := "ytjmdghkhapajiaa", sum := "76f678f873685839f4162cb4441b69817ae9882c83276e17cbf14a7ac33c52a4", func := "loop.example/g00047/laws.FnExactDuesOf", spec := "fnExactDuesOf", unfollowed := true, recurses := true, apart := false }
def FnExactDuesOfSaid : Prop := fnExactDuesOfRow.holds Try.pinned (OpenSpec.ofChange fnExactDuesOfSpec)

/-- ITS FALSE NEIGHBOUR: 'it returns false'. Refute it at one input. -/
def fnExactDuesOfWrong : ChangeSpec := { name := "fnExactDuesOf", fn := fun _ => fun
  | [d1, d2] => { results := [.lit (.bool false)], args := [d1, d2] }
  | _ => none }
def FnExactDuesOfWrongFalsely : Prop := fnExactDuesOfRow.holds Try.pinned (OpenSpec.ofChange fnExactDuesOfWrong)

/- THE SECOND FORM. 'bulk': how many values and letters a reading holds, each counted each time it is reached (what is shared counts as often as it is met; a slice's spare places count too). A statement '..UptoSaid' is the law's where the arguments, and the package variables that the reading takes, are together of bulk at most 1048576: NARROWER than '..Said'. Prove '..Said' where nothing that the law and all that it calls make is longer than what came in: it says more and counts as full. Else prove '..UptoSaid'. A law counts once. -/
mutual
def uptoBulk {H : Type} : DataW H → Nat
  | .lit (.string bytes) => bytes.length + 1
  | .lit _ => 1
  | .nil => 1
  | .ptr d => uptoBulk d + 1
  | .slice elems spare => uptoBulkAll elems + uptoBulkAll spare + 1
  | .agg parts => uptoBulkAll parts + 1
  | .iface _ d => uptoBulk d + 1
  | .map entries => uptoBulkEntries entries + 1
  | .held _ => 1
def uptoBulkAll {H : Type} : List (DataW H) → Nat
  | [] => 0
  | d :: r => uptoBulk d + uptoBulkAll r
def uptoBulkEntries {H : Type} : List (Lit × DataW H) → Nat
  | [] => 0
  | x :: r => uptoBulkEntry x + uptoBulkEntries r
def uptoBulkEntry {H : Type} : Lit × DataW H → Nat
  | (.string bytes, d) => bytes.length + uptoBulk d + 1
  | (_, d) => uptoBulk d + 1
 end
def uptoSmall : (H : Type) → List (DataW H) → Bool := fun _ ds => decide (uptoBulkAll ds ≤ 1048576)
def OpenSpec.upto (s : _root_.Go.ChangeSpec) : _root_.Go.OpenSpec := { _root_.Go.OpenSpec.ofChange s with cond := some uptoSmall }

/-- 'laws.FnAssign', WHERE WHAT IT READS IS OF BULK AT MOST 1048576: true; the input reads as it did. -/
def fnAssignUptoRow : OpenClaim := { program := "ytjmdghkhapajiaa", sum := "76f678f873685839f4162cb4441b69817ae9882c83276e17cbf14a7ac33c52a4", func := "loop.example/g00047/laws.FnAssign", spec := "fnAssign", unfollowed := true, recurses := true, apart := false, narrowed := true }
def FnAssignUptoSaid : Prop := fnAssignUptoRow.holds Try.pinned (OpenSpec.upto fnAssignSpec)

/-- 'laws.FnHandOver', WHERE WHAT IT READS IS OF BULK AT MOST 1048576: true; the input reads as it did. -/
def fnHandOverUptoRow : OpenClaim := { program := "ytjmdghkhapajiaa", sum := "76f678f873685839f4162cb4441b69817ae9882c83276e17cbf14a7ac33c52a4", func := "loop.example/g00047/laws.FnHandOver", spec := "fnHandOver", unfollowed := true, recurses := true, apart := false, narrowed := true }
def FnHandOverUptoSaid : Prop := fnHandOverUptoRow.holds Try.pinned (OpenSpec.upto fnHandOverSpec)

/-- 'laws.FnExactGoodPrices', WHERE WHAT IT READS IS OF BULK AT MOST 1048576: true; the input reads as it did. -/
def fnExactGoodPricesUptoRow : OpenClaim := { program := "ytjmdghkhapajiaa", sum := "76f678f873685839f4162cb4441b69817ae9882c83276e17cbf14a7ac33c52a4", func := "loop.example/g00047/laws.FnExactGoodPrices", spec := "fnExactGoodPrices", unfollowed := true, recurses := true, apart := false, narrowed := true }
def FnExactGoodPricesUptoSaid : Prop := fnExactGoodPricesUptoRow.holds Try.pinned (OpenSpec.upto fnExactGoodPricesSpec)

/-- 'laws.FnExactAssignCost', WHERE WHAT IT READS IS OF BULK AT MOST 1048576: true; the input reads as it did. -/
def fnExactAssignCostUptoRow : OpenClaim := { program := "ytjmdghkhapajiaa", sum := "76f678f873685839f4162cb4441b69817ae9882c83276e17cbf14a7ac33c52a4", func := "loop.example/g00047/laws.FnExactAssignCost", spec := "fnExactAssignCost", unfollowed := true, recurses := true, apart := false, narrowed := true }
def FnExactAssignCostUptoSaid : Prop := fnExactAssignCostUptoRow.holds Try.pinned (OpenSpec.upto fnExactAssignCostSpec)

/-- 'laws.FnExactBestAssign', WHERE WHAT IT READS IS OF BULK AT MOST 1048576: true; the input reads as it did. -/
def fnExactBestAssignUptoRow : OpenClaim := { program := "ytjmdghkhapajiaa", sum := "76f678f873685839f4162cb4441b69817ae9882c83276e17cbf14a7ac33c52a4", func := "loop.example/g00047/laws.FnExactBestAssign", spec := "fnExactBestAssign", unfollowed := true, recurses := true, apart := false, narrowed := true }
def FnExactBestAssignUptoSaid : Prop := fnExactBestAssignUptoRow.holds Try.pinned (OpenSpec.upto fnExactBestAssignSpec)

/-- 'laws.FnExactDuesOf', WHERE WHAT IT READS IS OF BULK AT MOST 1048576: true; the input reads as it did. -/
def fnExactDuesOfUptoRow : OpenClaim := { program := "ytjmdghkhapajiaa", sum := "76f678f873685839f4162cb4441b69817ae9882c83276e17cbf14a7ac33c52a4", func := "loop.example/g00047/laws.FnExactDuesOf", spec := "fnExactDuesOf", unfollowed := true, recurses := true, apart := false, narrowed := true }
def FnExactDuesOfUptoSaid : Prop := fnExactDuesOfUptoRow.holds Try.pinned (OpenSpec.upto fnExactDuesOfSpec)

end Rows
end Go.Proofs.Ytjmdghkhapajiaa
