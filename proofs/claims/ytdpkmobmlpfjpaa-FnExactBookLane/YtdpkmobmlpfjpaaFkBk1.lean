/- A struct of four ints as a value; the law's own copy of one. -/
import Derived.Test.YtdpkmobmlpfjpaaLqBase
namespace Go.Proofs.Ytdpkmobmlpfjpaa
open Go.RowKit
/-- one as a value -/
abbrev bkv (a b c d : Int) : Value := .agg #[.int .i64 a, .int .i64 b, .int .i64 c, .int .i64 d]
set_option maxHeartbeats 400000 in
theorem toBooked_any (a b c d : Int) (w : World) :
    Calls Try.prog 21 #[bkv a b c d] w fun e w' => e = .returned (bkv a b c d) ∧ Below w.heap.size w w' := by
  go_enter Try.func21, Try.ntmps21
  go_wp2
  go_returns
  refine ⟨rfl, ?_⟩
  repeat' (first | exact Below.refl _ _ | refine below_dr ?_ _ | refine Below.alloc ?_ (by simp <;> omega) _ | refine Below.setCell ?_ (by simp <;> omega) _)

end Go.Proofs.Ytdpkmobmlpfjpaa
