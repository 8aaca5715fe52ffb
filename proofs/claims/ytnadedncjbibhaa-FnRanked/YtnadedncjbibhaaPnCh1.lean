/- A struct of three ints as a value; the law's own copy of one. -/
import Derived.Test.YtnadedncjbibhaaLqBase
namespace Go.Proofs.Ytnadedncjbibhaa
open Go.RowKit
/-- one as a value -/
abbrev crv (a b c : Int) : Value := .agg #[.int .i64 a, .int .i64 b, .int .i64 c]
set_option maxHeartbeats 400000 in
theorem toChore_any (a b c : Int) (w : World) :
    Calls Try.prog 41 #[crv a b c] w fun e w' => e = .returned (crv a b c) ∧ Below w.heap.size w w' := by
  go_enter Try.func41, Try.ntmps41
  go_wp2
  go_returns
  refine ⟨rfl, ?_⟩
  repeat' (first | exact Below.refl _ _ | refine below_dr ?_ _ | refine Below.alloc ?_ (by simp <;> omega) _ | refine Below.setCell ?_ (by simp <;> omega) _)

end Go.Proofs.Ytnadedncjbibhaa
