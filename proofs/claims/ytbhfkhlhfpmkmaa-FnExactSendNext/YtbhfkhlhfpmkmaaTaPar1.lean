/- A struct of two ints as a value; the law's own copy of one. -/
import Derived.Test.YtbhfkhlhfpmkmaaLqBase
namespace Go.Proofs.Ytbhfkhlhfpmkmaa
open Go.RowKit
/-- one as a value -/
abbrev pcv (a b : Int) : Value := .agg #[.int .i64 a, .int .i64 b]
set_option maxHeartbeats 400000 in
theorem toParcel_any (a b : Int) (w : World) :
    Calls Try.prog 53 #[pcv a b] w fun e w' => e = .returned (pcv a b) ∧ Below w.heap.size w w' := by
  go_enter Try.func53, Try.ntmps53
  go_wp2
  go_returns
  refine ⟨rfl, ?_⟩
  repeat' (first | exact Below.refl _ _ | refine below_dr ?_ _ | refine Below.alloc ?_ (by simp <;> omega) _ | refine Below.setCell ?_ (by simp <;> omega) _)

end Go.Proofs.Ytbhfkhlhfpmkmaa
