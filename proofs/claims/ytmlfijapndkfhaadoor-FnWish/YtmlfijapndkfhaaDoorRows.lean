/-
  NARROWER THAN 'FOR EVERY INPUT', by the rows' own cells (each row's printed sentence says how): FnWish: ifaces, laid · FnExactReadWish: ifaces, laid.
  DERIVED. THE GIVEN ROWS OF THIS SEAT. 2 by the template 'for every input the law returns true; each argument reads behind the call as it read before'; 0 by the template 'total and deterministic' (their statements: YtmlfijapndkfhaaDoorTotals.lean).
  GIVEN WITH THE SEED: the statements are not yours to turn. If you find one false, say at which input.
  Laid BY PROGRAM, IN A SANDBOX (cutbox-rows.mjs): the forced cells as the released guide's own fill.sh prints them over the translation 64fa86c4db938e47… (all of the seat's roots in one cut). By AI agents, Wed Nov 11 2026. No macro, syntax, notation, axiom, sorry.
-/
import Derived.Test.YtmlfijapndkfhaaDoorChecked
import GoSem.PinnedTables
import GoSem.Claim
import GoSem.ClaimJoined
import GoSem.ClaimMapViews
import Derived.JoinedTies
import Derived.KernelRfl
namespace Go.Proofs.YtmlfijapndkfhaaDoor
/- THE CELL 'sum', in the pinned program and in every row, IS THE sha256 OF THE DUMP (.gsa) THAT YtmlfijapndkfhaaDoorProg.lean LOADS. Nothing in Lean hashes anything: it is a label: what it is worth is what the hold of that sum in a sandbox is worth. -/
noncomputable def Tryd.pinned : Pinned := { name := "ytmlfijapndkfhaadoor", sum := "64fa86c4db938e478a55a5e238e58022e0a5047b6df57ebb5b0f43cd4eb0ac64", checked := Tryd.checked }
namespace Rows
def none {H : Type} : Left H := { results := [], args := [] }

/- WHAT THE LISTED PACKAGE-LEVEL VARIABLES READ AS WHEN THE CALL BEGINS. Each datum BY PROGRAM (the guide's laid-datum.mjs) off the statement by which the dump's own 'gosem.cut.vars' lays the variable. In a bare row this is a premise. The card (YtmlfijapndkfhaaDoorCards.lean) ties it to the program's text. -/
def laid_unicode_utf8_acceptRanges {H : Type} : DataW H := .agg [.agg [.lit (.int .u8 128), .lit (.int .u8 191)], .agg [.lit (.int .u8 160), .lit (.int .u8 191)], .agg [.lit (.int .u8 128), .lit (.int .u8 159)], .agg [.lit (.int .u8 144), .lit (.int .u8 191)], .agg [.lit (.int .u8 128), .lit (.int .u8 143)], .agg [.lit (.int .u8 0), .lit (.int .u8 0)], .agg [.lit (.int .u8 0), .lit (.int .u8 0)], .agg [.lit (.int .u8 0), .lit (.int .u8 0)], .agg [.lit (.int .u8 0), .lit (.int .u8 0)], .agg [.lit (.int .u8 0), .lit (.int .u8 0)], .agg [.lit (.int .u8 0), .lit (.int .u8 0)], .agg [.lit (.int .u8 0), .lit (.int .u8 0)], .agg [.lit (.int .u8 0), .lit (.int .u8 0)], .agg [.lit (.int .u8 0), .lit (.int .u8 0)], .agg [.lit (.int .u8 0), .lit (.int .u8 0)], .agg [.lit (.int .u8 0), .lit (.int .u8 0)]]
def laid_errors_errorType {H : Type} : DataW H := .iface "internal/reflectlite.rtype" (.agg [.ptr (.lit (.string [101, 114, 114, 111, 114]))])
def laid_loop_example_g00047_impl_errWishWord {H : Type} : DataW H := .iface "*errors.errorString" (.ptr (.agg [.lit (.string [97, 32, 119, 111, 114, 100, 32, 105, 115, 32, 109, 105, 115, 115, 105, 110, 103, 44, 32, 111, 114, 32, 115, 116, 97, 110, 100, 115, 32, 119, 104, 101, 114, 101, 32, 110, 111, 110, 101, 32, 109, 97, 121])]))
def laid_loop_example_g00047_impl_errWishName {H : Type} : DataW H := .iface "*errors.errorString" (.ptr (.agg [.lit (.string [97, 32, 110, 97, 109, 101, 32, 105, 115, 32, 109, 105, 115, 115, 105, 110, 103, 44, 32, 116, 111, 111, 32, 108, 111, 110, 103, 32, 111, 114, 32, 111, 110, 101, 32, 116, 111, 111, 32, 109, 97, 110, 121])]))
def laid_loop_example_g00047_impl_errWishRune {H : Type} : DataW H := .iface "*errors.errorString" (.ptr (.agg [.lit (.string [97, 32, 98, 121, 116, 101, 32, 105, 115, 32, 110, 111, 110, 101, 32, 111, 102, 32, 97, 32, 110, 97, 109, 101, 39, 115])]))
def laid_loop_example_g00047_impl_errWishTwice {H : Type} : DataW H := .iface "*errors.errorString" (.ptr (.agg [.lit (.string [97, 32, 110, 97, 109, 101, 32, 115, 116, 97, 110, 100, 115, 32, 105, 110, 32, 105, 116, 115, 32, 108, 105, 115, 116, 32, 97, 108, 114, 101, 97, 100, 121])]))
def laid_loop_example_g00047_impl_errWishLong {H : Type} : DataW H := .iface "*errors.errorString" (.ptr (.agg [.lit (.string [116, 104, 101, 32, 116, 101, 120, 116, 32, 105, 115, 32, 116, 111, 111, 32, 108, 111, 110, 103])]))
/-- One of Go's own tables, pinned by name: the form's constant. -/
def laid_unicode_utf8_first : DataW Unit := Go.Pinned.utf8First

/-- 'laws.FnWish': WHATEVER THE INPUT: true; the input reads as it did. -/
def fnWishSpec : ChangeSpec := { name := "fnWish", vars := ["loop.example/g00047/impl.errWishLong", "loop.example/g00047/impl.errWishRune", "loop.example/g00047/impl.errWishName", "loop.example/g00047/impl.errWishWord", "loop.example/g00047/impl.errWishTwice"], fn := fun _ => fun
  | [d1, d2, g1, g2, g3, g4, g5] => { results := [.lit (.bool true)], args := [d1, d2], vars := [g1, g2, g3, g4, g5] }
  | _ => none }
def fnWishRow : OpenClaim := { program := "ytmlfijapndkfhaadoor", sum := "64fa86c4db938e478a55a5e238e58022e0a5047b6df57ebb5b0f43cd4eb0ac64", func := "loop.example/g00047/laws.FnWish", spec := "fnWish", inPlace := ["internal/abi.NoEscape", "internal/bytealg.MakeNoZero", "internal/reflectlite.TypeOf", "internal/reflectlite.ValueOf", "(internal/reflectlite.Value).Type", "(internal/reflectlite.Value).IsNil", "(internal/reflectlite.Value).Elem", "(internal/reflectlite.Value).Set"], unfollowed := true, recurses := true, named := ["unicode/utf8.first", "unicode/utf8.acceptRanges", "loop.example/g00047/impl.errWishLong", "loop.example/g00047/impl.errWishRune", "loop.example/g00047/impl.errWishName", "loop.example/g00047/impl.errWishWord", "loop.example/g00047/impl.errWishTwice", "errors.errorType"], ifaces := true, apart := false, laid := [("unicode/utf8.acceptRanges", laid_unicode_utf8_acceptRanges), ("errors.errorType", laid_errors_errorType), ("loop.example/g00047/impl.errWishWord", laid_loop_example_g00047_impl_errWishWord), ("loop.example/g00047/impl.errWishName", laid_loop_example_g00047_impl_errWishName), ("loop.example/g00047/impl.errWishRune", laid_loop_example_g00047_impl_errWishRune), ("loop.example/g00047/impl.errWishTwice", laid_loop_example_g00047_impl_errWishTwice), ("loop.example/g00047/impl.errWishLong", laid_loop_example_g00047_impl_errWishLong), ("unicode/utf8.first", laid_unicode_utf8_first)] }
def FnWishSaid : Prop := fnWishRow.holds Tryd.pinned (OpenSpec.ofChange fnWishSpec)

/-- ITS FALSE NEIGHBOUR: 'it returns false'. Refute it at one input. -/
def fnWishWrong : ChangeSpec := { name := "fnWish", vars := ["loop.example/g00047/impl.errWishLong", "loop.example/g00047/impl.errWishRune", "loop.example/g00047/impl.errWishName", "loop.example/g00047/impl.errWishWord", "loop.example/g00047/impl.errWishTwice"], fn := fun _ => fun
  | [d1, d2, g1, g2, g3, g4, g5] => { results := [.lit (.bool false)], args := [d1, d2], vars := [g1, g2, g3, g4, g5] }
  | _ => none }
def FnWishWrongFalsely : Prop := fnWishRow.holds Tryd.pinned (OpenSpec.ofChange fnWishWrong)

/-- 'laws.FnExactReadWish': WHATEVER THE INPUT: true; the input reads as it did. -/
def fnExactReadWishSpec : ChangeSpec := { name := "fnExactReadWish", vars := ["loop.example/g00047/impl.errWishLong", "loop.example/g00047/impl.errWishRune", "loop.example/g00047/impl.errWishName", "loop.example/g00047/impl.errWishWord", "loop.example/g00047/impl.errWishTwice"], fn := fun _ => fun
  | [d, g1, g2, g3, g4, g5] => { results := [.lit (.bool true)], args := [d], vars := [g1, g2, g3, g4, g5] }
  | _ => none }
def fnExactReadWishRow : OpenClaim := { program := "ytmlfijapndkfhaadoor", sum := "64fa86c4db938e478a55a5e238e58022e0a5047b6df57ebb5b0f43cd4eb0ac64", func := "loop.example/g00047/laws.FnExactReadWish", spec := "fnExactReadWish", inPlace := ["internal/reflectlite.TypeOf", "internal/reflectlite.ValueOf", "(internal/reflectlite.Value).Type", "(internal/reflectlite.Value).IsNil", "(internal/reflectlite.Value).Elem", "(internal/reflectlite.Value).Set"], unfollowed := true, recurses := true, named := ["loop.example/g00047/impl.errWishLong", "loop.example/g00047/impl.errWishRune", "loop.example/g00047/impl.errWishName", "unicode/utf8.first", "unicode/utf8.acceptRanges", "loop.example/g00047/impl.errWishWord", "loop.example/g00047/impl.errWishTwice", "errors.errorType"], ifaces := true, apart := false, laid := [("unicode/utf8.acceptRanges", laid_unicode_utf8_acceptRanges), ("errors.errorType", laid_errors_errorType), ("loop.example/g00047/impl.errWishWord", laid_loop_example_g00047_impl_errWishWord), ("loop.example/g00047/impl.errWishName", laid_loop_example_g00047_impl_errWishName), ("loop.example/g00047/impl.errWishRune", laid_loop_example_g00047_impl_errWishRune), ("loop.example/g00047/impl.errWishTwice", laid_loop_example_g00047_impl_errWishTwice), ("loop.example/g00047/impl.errWishLong", laid_loop_example_g00047_impl_errWishLong), ("unicode/utf8.first", laid_unicode_utf8_first)] }
def FnExactReadWishSaid : Prop := fnExactReadWishRow.holds Tryd.pinned (OpenSpec.ofChange fnExactReadWishSpec)

/-- ITS FALSE NEIGHBOUR: 'it returns false'. Refute it at one input. -/
def fnExactReadWishWrong : ChangeSpec := { name := "fnExactReadWish", vars := ["loop.example/g00047/impl.errWishLong", "loop.example/g00047/impl.errWishRune", "loop.example/g00047/impl.errWishName", "loop.example/g00047/impl.errWishWord", "loop.example/g00047/impl.errWishTwice"], fn := fun _ => fun
  | [d, g1, g2, g3, g4, g5] => { results := [.lit (.bool false)], args := [d], vars := [g1, g2, g3, g4, g5] }
  | _ => none }
def FnExactReadWishWrongFalsely : Prop := fnExactReadWishRow.holds Tryd.pinned (OpenSpec.ofChange fnExactReadWishWrong)

/- THE SECOND FORM. 'bulk': how many values and letters a reading holds, each counted each time it is reached (what is shared counts as often as it is met; a slice's spare places count too). A statement '..UptoSaid' is the law's where the arguments, and the package variables that the reading takes, are together of bulk at most 1048576: NARROWER than '..Said'. Prove '..Said' where nothing that the law and all that it calls make is longer than what came in: it says more and counts as full. Else prove '..UptoSaid'. A law counts once. -/
mutual
def uptoBulk {H : Type} : DataW H → Nat
  | .lit (.string bytes) => bytes.length + 1
  | .lit _ => 1
  | .nil => 1
  | .ptr d => uptoBulk d + 1
  | .slice elems spare => uptoBulkAll elems + uptoBulkAll spare + 1
  | .agg parts => uptoBulkAll parts + 1
  | .iface _ d => uptoBulk d + 1
  | .map entries => uptoBulkEntries entries + 1
  | .held _ => 1
def uptoBulkAll {H : Type} : List (DataW H) → Nat
  | [] => 0
  | d :: r => uptoBulk d + uptoBulkAll r
def uptoBulkEntries {H : Type} : List (Lit × DataW H) → Nat
  | [] => 0
  | x :: r => uptoBulkEntry x + uptoBulkEntries r
def uptoBulkEntry {H : Type} : Lit × DataW H → Nat
  | (.string bytes, d) => bytes.length + uptoBulk d + 1
  | (_, d) => uptoBulk d + 1
 end
def uptoSmall : (H : Type) → List (DataW H) → Bool := fun _ ds => decide (uptoBulkAll ds ≤ 1048576)
def OpenSpec.upto (s : _root_.Go.ChangeSpec) : _root_.Go.OpenSpec := { _root_.Go.OpenSpec.ofChange s with cond := some uptoSmall }

/-- 'laws.FnWish', WHERE WHAT IT READS IS OF BULK AT MOST 1048576: true; the input reads as it did. -/
def fnWishUptoRow : OpenClaim := { program := "ytmlfijapndkfhaadoor", sum := "64fa86c4db938e478a55a5e238e58022e0a5047b6df57ebb5b0f43cd4eb0ac64", func := "loop.example/g00047/laws.FnWish", spec := "fnWish", inPlace := ["internal/abi.NoEscape", "internal/bytealg.MakeNoZero", "internal/reflectlite.TypeOf", "internal/reflectlite.ValueOf", "(internal/reflectlite.Value).Type", "(internal/reflectlite.Value).IsNil", "(internal/reflectlite.Value).Elem", "(internal/reflectlite.Value).Set"], unfollowed := true, recurses := true, named := ["unicode/utf8.first", "unicode/utf8.acceptRanges", "loop.example/g00047/impl.errWishLong", "loop.example/g00047/impl.errWishRune", "loop.example/g00047/impl.errWishName", "loop.example/g00047/impl.errWishWord", "loop.example/g00047/impl.errWishTwice", "errors.errorType"], ifaces := true, apart := false, laid := [("unicode/utf8.acceptRanges", laid_unicode_utf8_acceptRanges), ("errors.errorType", laid_errors_errorType), ("loop.example/g00047/impl.errWishWord", laid_loop_example_g00047_impl_errWishWord), ("loop.example/g00047/impl.errWishName", laid_loop_example_g00047_impl_errWishName), ("loop.example/g00047/impl.errWishRune", laid_loop_example_g00047_impl_errWishRune), ("loop.example/g00047/impl.errWishTwice", laid_loop_example_g00047_impl_errWishTwice), ("loop.example/g00047/impl.errWishLong", laid_loop_example_g00047_impl_errWishLong), ("unicode/utf8.first", laid_unicode_utf8_first)], narrowed := true }
def FnWishUptoSaid : Prop := fnWishUptoRow.holds Tryd.pinned (OpenSpec.upto fnWishSpec)

/-- 'laws.FnExactReadWish', WHERE WHAT IT READS IS OF BULK AT MOST 1048576: true; the input reads as it did. -/
def fnExactReadWishUptoRow : OpenClaim := { program := "ytmlfijapndkfhaadoor", sum := "64fa86c4db938e478a55a5e238e58022e0a5047b6df57ebb5b0f43cd4eb0ac64", func := "loop.example/g00047/laws.FnExactReadWish", spec := "fnExactReadWish", inPlace := ["internal/reflectlite.TypeOf", "internal/reflectlite.ValueOf", "(internal/reflectlite.Value).Type", "(internal/reflectlite.Value).IsNil", "(internal/reflectlite.Value).Elem", "(internal/reflectlite.Value).Set"], unfollowed := true, recurses := true, named := ["loop.example/g00047/impl.errWishLong", "loop.example/g00047/impl.errWishRune", "loop.example/g00047/impl.errWishName", "unicode/utf8.first", "unicode/utf8.acceptRanges", "loop.example/g00047/impl.errWishWord", "loop.example/g00047/impl.errWishTwice", "errors.errorType"], ifaces := true, apart := false, laid := [("unicode/utf8.acceptRanges", laid_unicode_utf8_acceptRanges), ("errors.errorType", laid_errors_errorType), ("loop.example/g00047/impl.errWishWord", laid_loop_example_g00047_impl_errWishWord), ("loop.example/g00047/impl.errWishName", laid_loop_example_g00047_impl_errWishName), ("loop.example/g00047/impl.errWishRune", laid_loop_example_g00047_impl_errWishRune), ("loop.example/g00047/impl.errWishTwice", laid_loop_example_g00047_impl_errWishTwice), ("loop.example/g00047/impl.errWishLong", laid_loop_example_g00047_impl_errWishLong), ("unicode/utf8.first", laid_unicode_utf8_first)], narrowed := true }
def FnExactReadWishUptoSaid : Prop := fnExactReadWishUptoRow.holds Tryd.pinned (OpenSpec.upto fnExactReadWishSpec)

end Rows
end Go.Proofs.YtmlfijapndkfhaaDoor
