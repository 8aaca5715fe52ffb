/- A struct of three ints as a value; the law's own copy of one. -/
import Derived.Test.YtnadedncjbibhaaLqBase
namespace Go.Proofs.Ytnadedncjbibhaa
open Go.RowKit
/-- one as a value -/
abbrev scv (a b c : Int) : Value := .agg #[.int .i64 a, .int .i64 b, .int .i64 c]
end Go.Proofs.Ytnadedncjbibhaa
