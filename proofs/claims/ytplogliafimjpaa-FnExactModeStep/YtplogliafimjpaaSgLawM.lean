/- The law on ModeStep, walked. -/
import Derived.Test.YtplogliafimjpaaSgMode
namespace Go.Proofs.Ytplogliafimjpaa
open Go.RowKit

set_option maxHeartbeats 1000000 in
theorem modeLaw (m : Int) (s : ByteArray) (w : World) :
    Calls Try.prog 5 #[.int .i64 m, .string s] w fun e w' => e = .returned (.bool true) ∧ Below w.heap.size w w' := by
  have kS := sStep m s w
  have kI := iStep m s w
  generalize msV m s = z at kS kI
  by_cases h : s.size ≤ 1048576
  · go_enter Try.func5, Try.ntmps5
    go_wp2_with (first | (go_at_call 11; refine kS.mono ?_; rintro e w' ⟨rfl, hw'⟩; have hs' := hw'.symm; clear hw' kS; subst hs') | (go_at_call 12; refine kI.mono ?_; rintro e w' ⟨rfl, hw'⟩; have hs' := hw'.symm; clear hw' kI; subst hs') | fail)
    go_ret
    exact ⟨rfl, Below.refl _ _⟩
  · go_enter Try.func5, Try.ntmps5
    go_wp2
    go_ret
    exact ⟨rfl, Below.refl _ _⟩
end Go.Proofs.Ytplogliafimjpaa
