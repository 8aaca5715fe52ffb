/- Two holds that are one are held to be one. -/
import Derived.Test.YtnoaonflphameaaHdStepA
namespace Go.Proofs.Ytnoaonflphameaa
open Go.RowKit

set_option maxHeartbeats 1000000 in
theorem eqHold_any (h : Hd) (w : World) :
    Calls Try.prog 27 #[hv h, hv h] w fun e w' => e = .returned (.bool true) ∧ Below w.heap.size w w' := by
  go_enter Try.func27, Try.ntmps27
  go_wp2
  go_ret
  refine ⟨rfl, ?_⟩
  repeat' (first | exact Below.refl _ _ | refine below_dr ?_ _ | refine Below.alloc ?_ (by simp <;> omega) _ | refine Below.setCell ?_ (by simp <;> omega) _)
end Go.Proofs.Ytnoaonflphameaa
