/- A struct of two ints as a value; the law's own copy of one. -/
import Derived.Test.YtbndhhjgjalecabDoorQLqBase
namespace Go.Proofs.YtbndhhjgjalecabDoor
open Go.RowKit
/-- one as a value -/
abbrev tpv (a b : Int) : Value := .agg #[.int .i64 a, .int .i64 b]
set_option maxHeartbeats 400000 in
theorem toTrip_any (a b : Int) (w : World) :
    Calls Tryd.prog 7 #[tpv a b] w fun e w' => e = .returned (tpv a b) ∧ Below w.heap.size w w' := by
  go_enter Tryd.func7, Tryd.ntmps7
  go_wp2
  go_returns
  refine ⟨rfl, ?_⟩
  repeat' (first | exact Below.refl _ _ | refine below_dr ?_ _ | refine Below.alloc ?_ (by simp <;> omega) _ | refine Below.setCell ?_ (by simp <;> omega) _)

end Go.Proofs.YtbndhhjgjalecabDoor
