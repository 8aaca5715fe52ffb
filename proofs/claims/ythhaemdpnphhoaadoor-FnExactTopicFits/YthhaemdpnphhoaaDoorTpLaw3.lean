/- The walk of the law on TopicFits. -/
import Derived.Test.YthhaemdpnphhoaaDoorTfT
import Derived.Test.YthhaemdpnphhoaaDoorTfK1
namespace Go.Proofs.YthhaemdpnphhoaaDoor
open Go.RowKit
set_option maxHeartbeats 1000000 in
theorem fitsAll (a b : ByteArray) (w : World) (hM : Mx w) :
    Calls Tryd.prog 6 #[.string a, .string b] w fun e w' => e = .returned (.bool true) ∧ Below w.heap.size w w' := by
  by_cases ha : a.size ≤ 1048576
  · have j : ¬ (1048576 : Int) < (a.size : Int) := by omega
    by_cases hb : b.size ≤ 1048576
    · have j2 : ¬ (1048576 : Int) < (b.size : Int) := by omega
      have h1 := fun w => sTopicFits a b w ha hb
      have h2 := fun w hM => iTopicFits a b w hM ha hb
      generalize tfB a b = V at *
      go_enter Tryd.func6, Tryd.ntmps6
      go_wp2_with fail
      refine (h1 _).mono ?_
      rintro e w1 ⟨rfl, hb1⟩
      go_wp2_with fail
      refine (h2 _ (hM.on hb1)).mono ?_
      rintro e w2 ⟨rfl, hb2⟩
      have hB := stepA hb1 hb2
      cases V <;> (go_wp2; go_ret; exact ⟨rfl, hB⟩)
    · have j2 : (1048576 : Int) < (b.size : Int) := by omega
      go_enter Tryd.func6, Tryd.ntmps6
      go_wp2
      go_ret
      exact ⟨rfl, Below.refl _ _⟩
  · have j : (1048576 : Int) < (a.size : Int) := by omega
    go_enter Tryd.func6, Tryd.ntmps6
    go_wp2
    go_ret
    exact ⟨rfl, Below.refl _ _⟩
end Go.Proofs.YthhaemdpnphhoaaDoor
