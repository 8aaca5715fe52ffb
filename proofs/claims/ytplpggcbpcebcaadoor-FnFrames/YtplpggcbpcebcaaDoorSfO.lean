/- The other bit, as the program tells it. -/
import Derived.Test.YtplpggcbpcebcaaDoorSfM
namespace Go.Proofs.YtplpggcbpcebcaaDoor
open Go.RowKit
set_option maxHeartbeats 2000000 in
theorem other_any (x : Int) (w : World) (hx : x = 48 ∨ x = 49) : Calls Tryd.prog 36 #[.int .u8 x] w fun e w' => e = .returned (.int .u8 (97 - x)) ∧ w' = w := by
  rcases hx with rfl | rfl
  · go_enter Tryd.func36, Tryd.ntmps36
    go_wp2
    go_ret
    exact ⟨rfl, rfl⟩
  · go_enter Tryd.func36, Tryd.ntmps36
    go_wp2
    go_ret
    exact ⟨rfl, rfl⟩
end Go.Proofs.YtplpggcbpcebcaaDoor
