/-
  No cell of these rows narrows 'for every input' (looked for: loops, veiled, ifaces, maps, wideKeys, modest, calm, conditions, laid).
  DERIVED. THE GIVEN ROWS OF THIS SEAT. 2 by the template 'for every input the law returns true; each argument reads behind the call as it read before'; 0 by the template 'total and deterministic' (their statements: YtjamfjhdeijbpaaTotals.lean).
  GIVEN WITH THE SEED: the statements are not yours to turn. If you find one false, say at which input.
  Laid BY PROGRAM, IN A SANDBOX (cutbox-rows.mjs): the forced cells as the released guide's own fill.sh prints them over the translation 2be8cc2bee0c1969… (all of the seat's roots in one cut). By AI agents, Wed Nov 11 2026. No macro, syntax, notation, axiom, sorry.
-/
import Derived.Test.YtjamfjhdeijbpaaChecked
import GoSem.Claim
import GoSem.ClaimJoined
import GoSem.ClaimMapViews
import Derived.JoinedTies
import Derived.KernelRfl
namespace Go.Proofs.Ytjamfjhdeijbpaa
/- THE CELL 'sum', in the pinned program and in every row, IS THE sha256 OF THE DUMP (.gsa) THAT YtjamfjhdeijbpaaProg.lean LOADS. Nothing in Lean hashes anything: it is a label: what it is worth is what the hold of that sum in a sandbox is worth. -/
noncomputable def Try.pinned : Pinned := { name := "ytjamfjhdeijbpaa", sum := "2be8cc2bee0c19690bd219a780b854485c758119fe3adb0762850671bf65978b", checked := Try.checked }
namespace Rows
def none {H : Type} : Left H := { results := [], args := [] }

/-- 'laws.FnExactGoodReal': WHATEVER THE INPUT: true; the input reads as it did. -/
def fnExactGoodRealSpec : ChangeSpec := { name := "fnExactGoodReal", fn := fun _ => fun
  | [d] => { results := [.lit (.bool true)], args := [d] }
  | _ => none }
def fnExactGoodRealRow : OpenClaim := { program := "ytjamfjhdeijbpaa", sum := "2be8cc2bee0c19690bd219a780b854485c758119fe3adb0762850671bf65978b", func := "loop.example/g00047/laws.FnExactGoodReal", spec := "fnExactGoodReal", inPlace := ["math.Float64bits", "math.Float64frombits"], apart := false }
def FnExactGoodRealSaid : Prop := fnExactGoodRealRow.holds Try.pinned (OpenSpec.ofChange fnExactGoodRealSpec)

/-- ITS FALSE NEIGHBOUR: 'it returns false'. Refute it at one input. -/
def fnExactGoodRealWrong : ChangeSpec := { name := "fnExactGoodReal", fn := fun _ => fun
  | [d] => { results := [.lit (.bool false)], args := [d] }
  | _ => none }
def FnExactGoodRealWrongFalsely : Prop := fnExactGoodRealRow.holds Try.pinned (OpenSpec.ofChange fnExactGoodRealWrong)

/-- 'laws.FnExactNextReal': WHATEVER THE INPUT: true; the input reads as it did. -/
def fnExactNextRealSpec : ChangeSpec := { name := "fnExactNextReal", fn := fun _ => fun
  | [d] => { results := [.lit (.bool true)], args := [d] }
  | _ => none }
def fnExactNextRealRow : OpenClaim := { program := "ytjamfjhdeijbpaa", sum := "2be8cc2bee0c19690bd219a780b854485c758119fe3adb0762850671bf65978b", func := "loop.example/g00047/laws.FnExactNextReal", spec := "fnExactNextReal", inPlace := ["math.Float64bits", "math.Float64frombits"], apart := false }
def FnExactNextRealSaid : Prop := fnExactNextRealRow.holds Try.pinned (OpenSpec.ofChange fnExactNextRealSpec)

/-- ITS FALSE NEIGHBOUR: 'it returns false'. Refute it at one input. -/
def fnExactNextRealWrong : ChangeSpec := { name := "fnExactNextReal", fn := fun _ => fun
  | [d] => { results := [.lit (.bool false)], args := [d] }
  | _ => none }
def FnExactNextRealWrongFalsely : Prop := fnExactNextRealRow.holds Try.pinned (OpenSpec.ofChange fnExactNextRealWrong)

/- THE SECOND FORM. 'bulk': how many values and letters a reading holds, each counted each time it is reached (what is shared counts as often as it is met; a slice's spare places count too). A statement '..UptoSaid' is the law's where the arguments, and the package variables that the reading takes, are together of bulk at most 1048576: NARROWER than '..Said'. Prove '..Said' where nothing that the law and all that it calls make is longer than what came in: it says more and counts as full. Else prove '..UptoSaid'. A law counts once. -/
mutual
def uptoBulk {H : Type} : DataW H → Nat
  | .lit (.string bytes) => bytes.length + 1
  | .lit _ => 1
  | .nil => 1
  | .ptr d => uptoBulk d + 1
  | .slice elems spare => uptoBulkAll elems + uptoBulkAll spare + 1
  | .agg parts => uptoBulkAll parts + 1
  | .iface _ d => uptoBulk d + 1
  | .map entries => uptoBulkEntries entries + 1
  | .held _ => 1
def uptoBulkAll {H : Type} : List (DataW H) → Nat
  | [] => 0
  | d :: r => uptoBulk d + uptoBulkAll r
def uptoBulkEntries {H : Type} : List (Lit × DataW H) → Nat
  | [] => 0
  | x :: r => uptoBulkEntry x + uptoBulkEntries r
def uptoBulkEntry {H : Type} : Lit × DataW H → Nat
  | (.string bytes, d) => bytes.length + uptoBulk d + 1
  | (_, d) => uptoBulk d + 1
 end
def uptoSmall : (H : Type) → List (DataW H) → Bool := fun _ ds => decide (uptoBulkAll ds ≤ 1048576)
def OpenSpec.upto (s : _root_.Go.ChangeSpec) : _root_.Go.OpenSpec := { _root_.Go.OpenSpec.ofChange s with cond := some uptoSmall }

/-- 'laws.FnExactGoodReal', WHERE WHAT IT READS IS OF BULK AT MOST 1048576: true; the input reads as it did. -/
def fnExactGoodRealUptoRow : OpenClaim := { program := "ytjamfjhdeijbpaa", sum := "2be8cc2bee0c19690bd219a780b854485c758119fe3adb0762850671bf65978b", func := "loop.example/g00047/laws.FnExactGoodReal", spec := "fnExactGoodReal", inPlace := ["math.Float64bits", "math.Float64frombits"], apart := false, narrowed := true }
def FnExactGoodRealUptoSaid : Prop := fnExactGoodRealUptoRow.holds Try.pinned (OpenSpec.upto fnExactGoodRealSpec)

/-- 'laws.FnExactNextReal', WHERE WHAT IT READS IS OF BULK AT MOST 1048576: true; the input reads as it did. -/
def fnExactNextRealUptoRow : OpenClaim := { program := "ytjamfjhdeijbpaa", sum := "2be8cc2bee0c19690bd219a780b854485c758119fe3adb0762850671bf65978b", func := "loop.example/g00047/laws.FnExactNextReal", spec := "fnExactNextReal", inPlace := ["math.Float64bits", "math.Float64frombits"], apart := false, narrowed := true }
def FnExactNextRealUptoSaid : Prop := fnExactNextRealUptoRow.holds Try.pinned (OpenSpec.upto fnExactNextRealSpec)

end Rows
end Go.Proofs.Ytjamfjhdeijbpaa
