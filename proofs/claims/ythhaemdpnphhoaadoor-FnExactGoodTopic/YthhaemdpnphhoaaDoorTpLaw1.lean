/- The walk of the law on GoodTopic. -/
import Derived.Test.YthhaemdpnphhoaaDoorTpS
import Derived.Test.YthhaemdpnphhoaaDoorTpI
namespace Go.Proofs.YthhaemdpnphhoaaDoor
open Go.RowKit
set_option maxHeartbeats 1000000 in
theorem topicAll (s : ByteArray) (w : World) (hM : Mx w) :
    Calls Tryd.prog 4 #[.string s] w fun e w' => e = .returned (.bool true) ∧ Below w.heap.size w w' := by
  by_cases hs : s.size ≤ 1048576
  · have j : ¬ (1048576 : Int) < (s.size : Int) := by omega
    have h1 := fun w => sTopic s w hs
    have h2 := fun w hM => iTopic s w hM hs
    generalize gtB s = V at *
    go_enter Tryd.func4, Tryd.ntmps4
    go_wp2_with fail
    refine (h1 _).mono ?_
    rintro e w1 ⟨rfl, hb1⟩
    go_wp2_with fail
    refine (h2 _ (hM.on hb1)).mono ?_
    rintro e w2 ⟨rfl, hb2⟩
    have hB := stepA hb1 hb2
    cases V <;> (go_wp2; go_ret; exact ⟨rfl, hB⟩)
  · have j : (1048576 : Int) < (s.size : Int) := by omega
    go_enter Tryd.func4, Tryd.ntmps4
    go_wp2
    go_ret
    exact ⟨rfl, Below.refl _ _⟩
end Go.Proofs.YthhaemdpnphhoaaDoor
