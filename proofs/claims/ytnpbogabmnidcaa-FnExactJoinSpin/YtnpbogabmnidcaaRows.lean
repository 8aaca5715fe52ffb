/-
  No cell of these rows narrows 'for every input' (looked for: loops, veiled, ifaces, maps, wideKeys, modest, calm, conditions, laid).
  DERIVED. THE GIVEN ROWS OF THIS SEAT. 4 by the template 'for every input the law returns true; each argument reads behind the call as it read before'; 0 by the template 'total and deterministic' (their statements: YtnpbogabmnidcaaTotals.lean).
  GIVEN WITH THE SEED: the statements are not yours to turn. If you find one false, say at which input.
  Laid BY PROGRAM, IN A SANDBOX (cutbox-rows.mjs): the forced cells as the released guide's own fill.sh prints them over the translation b53cab859b3109d3… (all of the seat's roots in one cut). By AI agents, Wed Nov 11 2026. No macro, syntax, notation, axiom, sorry.
-/
import Derived.Test.YtnpbogabmnidcaaChecked
import GoSem.Claim
import GoSem.ClaimJoined
import GoSem.ClaimMapViews
import Derived.JoinedTies
import Derived.KernelRfl
namespace Go.Proofs.Ytnpbogabmnidcaa
/- THE CELL 'sum', in the pinned program and in every row, IS THE sha256 OF THE DUMP (.gsa) THAT YtnpbogabmnidcaaProg.lean LOADS. Nothing in Lean hashes anything: it is a label: what it is worth is what the hold of that sum in a sandbox is worth. -/
noncomputable def Try.pinned : Pinned := { name := "ytnpbogabmnidcaa", sum := "b53cab859b3109d339503b746e0b129ffa7e4b02b07107321b6f68f159c686c1", checked := Try.checked }
namespace Rows
def none {H : Type} : Left H := { results := [], args := [] }

/-- 'laws.FnExactGoodSpin': WHATEVER THE INPUT: true; the input reads as it did. -/
def fnExactGoodSpinSpec : ChangeSpec := { name := "fnExactGoodSpin", fn := fun _ => fun
  | [d] => { results := [.lit (.bool true)], args := [d] }
  | _ => none }
def fnExactGoodSpinRow : OpenClaim := { program := "ytnpbogabmnidcaa", sum := "b53cab859b3109d339503b746e0b129ffa7e4b02b07107321b6f68f159c686c1", func := "loop.example/g00047/laws.FnExactGoodSpin", spec := "fnExactGoodSpin", apart := false }
def FnExactGoodSpinSaid : Prop := fnExactGoodSpinRow.holds Try.pinned (OpenSpec.ofChange fnExactGoodSpinSpec)

/-- ITS FALSE NEIGHBOUR: 'it returns false'. Refute it at one input. -/
def fnExactGoodSpinWrong : ChangeSpec := { name := "fnExactGoodSpin", fn := fun _ => fun
  | [d] => { results := [.lit (.bool false)], args := [d] }
  | _ => none }
def FnExactGoodSpinWrongFalsely : Prop := fnExactGoodSpinRow.holds Try.pinned (OpenSpec.ofChange fnExactGoodSpinWrong)

/-- 'laws.FnExactPlainSpin': WHATEVER THE INPUT: true; the input reads as it did. -/
def fnExactPlainSpinSpec : ChangeSpec := { name := "fnExactPlainSpin", fn := fun _ => fun
  | [d] => { results := [.lit (.bool true)], args := [d] }
  | _ => none }
def fnExactPlainSpinRow : OpenClaim := { program := "ytnpbogabmnidcaa", sum := "b53cab859b3109d339503b746e0b129ffa7e4b02b07107321b6f68f159c686c1", func := "loop.example/g00047/laws.FnExactPlainSpin", spec := "fnExactPlainSpin", apart := false }
def FnExactPlainSpinSaid : Prop := fnExactPlainSpinRow.holds Try.pinned (OpenSpec.ofChange fnExactPlainSpinSpec)

/-- ITS FALSE NEIGHBOUR: 'it returns false'. Refute it at one input. -/
def fnExactPlainSpinWrong : ChangeSpec := { name := "fnExactPlainSpin", fn := fun _ => fun
  | [d] => { results := [.lit (.bool false)], args := [d] }
  | _ => none }
def FnExactPlainSpinWrongFalsely : Prop := fnExactPlainSpinRow.holds Try.pinned (OpenSpec.ofChange fnExactPlainSpinWrong)

/-- 'laws.FnExactJoinSpin': WHATEVER THE INPUT: true; the input reads as it did. -/
def fnExactJoinSpinSpec : ChangeSpec := { name := "fnExactJoinSpin", fn := fun _ => fun
  | [d1, d2] => { results := [.lit (.bool true)], args := [d1, d2] }
  | _ => none }
def fnExactJoinSpinRow : OpenClaim := { program := "ytnpbogabmnidcaa", sum := "b53cab859b3109d339503b746e0b129ffa7e4b02b07107321b6f68f159c686c1", func := "loop.example/g00047/laws.FnExactJoinSpin", spec := "fnExactJoinSpin", unfollowed := true, recurses := true, apart := false }
def FnExactJoinSpinSaid : Prop := fnExactJoinSpinRow.holds Try.pinned (OpenSpec.ofChange fnExactJoinSpinSpec)

/-- ITS FALSE NEIGHBOUR: 'it returns false'. Refute it at one input. -/
def fnExactJoinSpinWrong : ChangeSpec := { name := "fnExactJoinSpin", fn := fun _ => fun
  | [d1, d2] => { results := [.lit (.bool false)], args := [d1, d2] }
  | _ => none }
def FnExactJoinSpinWrongFalsely : Prop := fnExactJoinSpinRow.holds Try.pinned (OpenSpec.ofChange fnExactJoinSpinWrong)

/-- 'laws.FnExactBackSpin': WHATEVER THE INPUT: true; the input reads as it did. -/
def fnExactBackSpinSpec : ChangeSpec := { name := "fnExactBackSpin", fn := fun _ => fun
  | [d] => { results := [.lit (.bool true)], args := [d] }
  | _ => none }
def fnExactBackSpinRow : OpenClaim := { program := "ytnpbogabmnidcaa", sum := "b53cab859b3109d339503b746e0b129ffa7e4b02b07107321b6f68f159c686c1", func := "loop.example/g00047/laws.FnExactBackSpin", spec := "fnExactBackSpin", apart := false }
def FnExactBackSpinSaid : Prop := fnExactBackSpinRow.holds Try.pinned (OpenSpec.ofChange fnExactBackSpinSpec)

/-- ITS FALSE NEIGHBOUR: 'it returns false'. Refute it at one input. -/
def fnExactBackSpinWrong : ChangeSpec := { name := "fnExactBackSpin", fn := fun _ => fun
  | [d] => { results := [.lit (.bool false)], args := [d] }
  | _ => none }
def FnExactBackSpinWrongFalsely : Prop := fnExactBackSpinRow.holds Try.pinned (OpenSpec.ofChange fnExactBackSpinWrong)

/- THE SECOND FORM. 'bulk': how many values and letters a reading holds, each counted each time it is reached (what is shared counts as often as it is met; a slice's spare places count too). A statement '..UptoSaid' is the law's where the arguments, and the package variables that the reading takes, are together of bulk at most 1048576: NARROWER than '..Said'. Prove '..Said' where nothing that the law and all that it calls make is longer than what came in: it says more and counts as full. Else prove '..UptoSaid'. A law counts once. -/
mutual
def uptoBulk {H : Type} : DataW H → Nat
  | .lit (.string bytes) => bytes.length + 1
  | .lit _ => 1
  | .nil => 1
  | .ptr d => uptoBulk d + 1
  | .slice elems spare => uptoBulkAll elems + uptoBulkAll spare + 1
  | .agg parts => uptoBulkAll parts + 1
  | .iface _ d => uptoBulk d + 1
  | .map entries => uptoBulkEntries entries + 1
  | .held _ => 1
def uptoBulkAll {H : Type} : List (DataW H) → Nat
  | [] => 0
  | d :: r => uptoBulk d + uptoBulkAll r
def uptoBulkEntries {H : Type} : List (Lit × DataW H) → Nat
  | [] => 0
  | x :: r => uptoBulkEntry x + uptoBulkEntries r
def uptoBulkEntry {H : Type} : Lit × DataW H → Nat
  | (.string bytes, d) => bytes.length + uptoBulk d + 1
  | (_, d) => uptoBulk d + 1
 end
def uptoSmall : (H : Type) → List (DataW H) → Bool := fun _ ds => decide (uptoBulkAll ds ≤ 1048576)
def OpenSpec.upto (s : _root_.Go.ChangeSpec) : _root_.Go.OpenSpec := { _root_.Go.OpenSpec.ofChange s with cond := some uptoSmall }

/-- 'laws.FnExactGoodSpin', WHERE WHAT IT READS IS OF BULK AT MOST 1048576: true; the input reads as it did. -/
def fnExactGoodSpinUptoRow : OpenClaim := { program := "ytnpbogabmnidcaa", sum := "b53cab859b3109d339503b746e0b129ffa7e4b02b07107321b6f68f159c686c1", func := "loop.example/g00047/laws.FnExactGoodSpin", spec := "fnExactGoodSpin", apart := false, narrowed := true }
def FnExactGoodSpinUptoSaid : Prop := fnExactGoodSpinUptoRow.holds Try.pinned (OpenSpec.upto fnExactGoodSpinSpec)

/-- 'laws.FnExactPlainSpin', WHERE WHAT IT READS IS OF BULK AT MOST 1048576: true; the input reads as it did. -/
def fnExactPlainSpinUptoRow : OpenClaim := { program := "ytnpbogabmnidcaa", sum := "b53cab859b3109d339503b746e0b129ffa7e4b02b07107321b6f68f159c686c1", func := "loop.example/g00047/laws.FnExactPlainSpin", spec := "fnExactPlainSpin", apart := false, narrowed := true }
def FnExactPlainSpinUptoSaid : Prop := fnExactPlainSpinUptoRow.holds Try.pinned (OpenSpec.upto fnExactPlainSpinSpec)

/-- 'laws.FnExactJoinSpin', WHERE WHAT IT READS IS OF BULK AT MOST 1048576: true; the input reads as it did. -/
def fnExactJoinSpinUptoRow : OpenClaim := { program := "ytnpbogabmnidcaa", sum := "b53cab859b3109d339503b746e0b129ffa7e4b02b07107321b6f68f159c686c1", func := "loop.example/g00047/laws.FnExactJoinSpin", spec := "fnExactJoinSpin", unfollowed := true, recurses := true, apart := false, narrowed := true }
def FnExactJoinSpinUptoSaid : Prop := fnExactJoinSpinUptoRow.holds Try.pinned (OpenSpec.upto fnExactJoinSpinSpec)

/-- 'laws.FnExactBackSpin', WHERE WHAT IT READS IS OF BULK AT MOST 1048576: true; the input reads as it did. -/
def fnExactBackSpinUptoRow : OpenClaim := { program := "ytnpbogabmnidcaa", sum := "b53cab859b3109d339503b746e0b129ffa7e4b02b07107321b6f68f159c686c1", func := "loop.example/g00047/laws.FnExactBackSpin", spec := "fnExactBackSpin", apart := false, narrowed := true }
def FnExactBackSpinUptoSaid : Prop := fnExactBackSpinUptoRow.holds Try.pinned (OpenSpec.upto fnExactBackSpinSpec)

end Rows
end Go.Proofs.Ytnpbogabmnidcaa
