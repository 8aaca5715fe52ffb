/- Pairs of ints as values. -/
import Derived.Test.YtbndhhjgjalecabDoorCwMp
namespace Go.Proofs.YtbndhhjgjalecabDoor
open Go.RowKit Go.Maps

abbrev kvP : Int × Int → Value := fun x => .agg #[.int .i64 x.1, .int .i64 x.2]
abbrev okP : Int × Int → Prop := fun x => (Lit.int .i64 x.1).wf = true ∧ (Lit.int .i64 x.2).wf = true
end Go.Proofs.YtbndhhjgjalecabDoor
