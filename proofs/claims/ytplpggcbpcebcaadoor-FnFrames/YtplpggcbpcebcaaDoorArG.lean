/- Which ids are good. -/
import Derived.Test.YtplpggcbpcebcaaDoorInCore
namespace Go.Proofs.YtplpggcbpcebcaaDoor
open Go.RowKit
def idB (x : Int) : Bool := decide (0 ≤ x) && decide (x ≤ 2047)
theorem idB_of {x : Int} (h : idB x = true) : 0 ≤ x ∧ x ≤ 2047 := by unfold idB at h; simpa using h
set_option maxHeartbeats 1000000 in
theorem goodId_any (x : Int) (w : World) : Calls Tryd.prog 46 #[.int .i64 x] w fun e w' => e = .returned (.bool (idB x)) ∧ w' = w := by
  unfold idB
  by_cases h0 : 0 ≤ x
  · by_cases h1 : x ≤ 2047
    · rw [decide_eq_true h0, decide_eq_true h1]
      go_enter Tryd.func46, Tryd.ntmps46
      go_wp2
      go_ret
      exact ⟨rfl, rfl⟩
    · rw [decide_eq_true h0, decide_eq_false h1]
      go_enter Tryd.func46, Tryd.ntmps46
      go_wp2
      go_ret
      exact ⟨rfl, rfl⟩
  · rw [decide_eq_false h0]
    go_enter Tryd.func46, Tryd.ntmps46
    go_wp2
    go_ret
    exact ⟨rfl, rfl⟩
end Go.Proofs.YtplpggcbpcebcaaDoor
