/- A struct of three ints as a value; the law's own copy of one. -/
import Derived.Test.YteknkgfgefhloaaLqBase
namespace Go.Proofs.Yteknkgfgefhloaa
open Go.RowKit
/-- one as a value -/
abbrev spv (a b c : Int) : Value := .agg #[.int .i64 a, .int .i64 b, .int .i64 c]
set_option maxHeartbeats 400000 in
theorem toStamped_any (a b c : Int) (w : World) :
    Calls Try.prog 54 #[spv a b c] w fun e w' => e = .returned (spv a b c) ∧ Below w.heap.size w w' := by
  go_enter Try.func54, Try.ntmps54
  go_wp2
  go_returns
  refine ⟨rfl, ?_⟩
  repeat' (first | exact Below.refl _ _ | refine below_dr ?_ _ | refine Below.alloc ?_ (by simp <;> omega) _ | refine Below.setCell ?_ (by simp <;> omega) _)

end Go.Proofs.Yteknkgfgefhloaa
