/- A struct of four ints as a value. -/
import Derived.Test.YtdpblholoogikaaLqBase
namespace Go.Proofs.Ytdpblholoogikaa
open Go.RowKit
/-- one as a value -/
abbrev bkv (a b c d : Int) : Value := .agg #[.int .i64 a, .int .i64 b, .int .i64 c, .int .i64 d]
end Go.Proofs.Ytdpblholoogikaa
