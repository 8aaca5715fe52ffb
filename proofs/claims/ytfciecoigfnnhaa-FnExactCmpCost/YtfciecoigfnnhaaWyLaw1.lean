/- The walk of the law on CmpCost. -/
import Derived.Test.YtfciecoigfnnhaaWyCmp
import Derived.Test.YtfciecoigfnnhaaWyCmpI
namespace Go.Proofs.Ytfciecoigfnnhaa
open Go.RowKit
set_option maxHeartbeats 400000 in
theorem cmpLaw (a b c d : Int) (w : World) :
    Calls Try.prog 6 #[.int .i64 a, .int .i64 b, .int .i64 c, .int .i64 d] w fun e w' => e = .returned (.bool true) ∧ Below w.heap.size w w' := by
  have k1 := sCmpCost a b c d
  have k2 := iCmpCost a b c d
  generalize cstV a b c d = v at k1 k2
  generalize cstB a b c d = q at k1 k2
  go_enter Try.func6, Try.ntmps6
  go_wp2_with (first | (go_at_call 27; refine (k1 _).mono ?_; rintro e w' ⟨rfl, hw'⟩; have hs := hw'.symm; clear hw'; subst hs) | (go_at_call 14; refine (k2 _).mono ?_; rintro e w1 ⟨rfl, hb1⟩))
  go_ret
  exact ⟨rfl, hb1⟩
end Go.Proofs.Ytfciecoigfnnhaa
