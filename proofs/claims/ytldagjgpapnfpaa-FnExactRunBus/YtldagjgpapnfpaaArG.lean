/- Which ids are good. -/
import Derived.Test.YtldagjgpapnfpaaInCore
namespace Go.Proofs.Ytldagjgpapnfpaa
open Go.RowKit
def idB (x : Int) : Bool := decide (0 ≤ x) && decide (x ≤ 2047)
theorem idB_of {x : Int} (h : idB x = true) : 0 ≤ x ∧ x ≤ 2047 := by unfold idB at h; simpa using h
set_option maxHeartbeats 1000000 in
theorem goodId_any (x : Int) (w : World) : Calls Try.prog 71 #[.int .i64 x] w fun e w' => e = .returned (.bool (idB x)) ∧ w' = w := by
  unfold idB
  by_cases h0 : 0 ≤ x
  · by_cases h1 : x ≤ 2047
    · rw [decide_eq_true h0, decide_eq_true h1]
      go_enter Try.func71, Try.ntmps71
      go_wp2
      go_ret
      exact ⟨rfl, rfl⟩
    · rw [decide_eq_true h0, decide_eq_false h1]
      go_enter Try.func71, Try.ntmps71
      go_wp2
      go_ret
      exact ⟨rfl, rfl⟩
  · rw [decide_eq_false h0]
    go_enter Try.func71, Try.ntmps71
    go_wp2
    go_ret
    exact ⟨rfl, rfl⟩
end Go.Proofs.Ytldagjgpapnfpaa
