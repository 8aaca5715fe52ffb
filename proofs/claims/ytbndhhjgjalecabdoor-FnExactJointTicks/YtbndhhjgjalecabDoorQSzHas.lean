/- Which places lie within the sides, as the model says it. -/
import Derived.Test.YtbndhhjgjalecabDoorQClVal
namespace Go.Proofs.YtbndhhjgjalecabDoor
open Go.RowKit

set_option maxHeartbeats 1000000 in
theorem has_any (W : Int) (n : Nat) (x y : Int) (w : World) (h0 : 1 ≤ W) (hn : n ≤ 1048576) :
    Calls Tryd.prog 28 #[.int .i64 W, .int .i64 (n : Int), .int .i64 x, .int .i64 y] w fun e w' => e = .returned (.bool (hvB W (hgt W n) x y)) ∧ w' = w := by
  have j0 : (0 : Int) ≤ (n : Int) := by omega
  have hz : ¬ W = 0 := by omega
  have ed := Int.tdiv_eq_ediv_of_nonneg (a := (n : Int)) (b := W) (by omega)
  have hq0 : 0 ≤ (n : Int) / W := Int.ediv_nonneg (by omega) (by omega)
  have hq1 : (n : Int) / W ≤ (n : Int) := Int.ediv_le_self _ (by omega)
  unfold hgt
  by_cases h1 : 0 ≤ x
  · by_cases h2 : x < W
    · by_cases h3 : 0 ≤ y
      · by_cases h4 : y < (n : Int) / W
        · rw [hvB_mk ⟨h1, h2, h3, h4⟩]
          go_enter Tryd.func28, Tryd.ntmps28
          go_wp2
          go_ret
          exact ⟨rfl, rfl⟩
        · rw [hvB_f (by omega)]
          go_enter Tryd.func28, Tryd.ntmps28
          go_wp2
          go_ret
          exact ⟨rfl, rfl⟩
      · rw [hvB_f (by omega)]
        go_enter Tryd.func28, Tryd.ntmps28
        go_wp2
        go_ret
        exact ⟨rfl, rfl⟩
    · rw [hvB_f (by omega)]
      go_enter Tryd.func28, Tryd.ntmps28
      go_wp2
      go_ret
      exact ⟨rfl, rfl⟩
  · rw [hvB_f (by omega)]
    go_enter Tryd.func28, Tryd.ntmps28
    go_wp2
    go_ret
    exact ⟨rfl, rfl⟩

end Go.Proofs.YtbndhhjgjalecabDoor
