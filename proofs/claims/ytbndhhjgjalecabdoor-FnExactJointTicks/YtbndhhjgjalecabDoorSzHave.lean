/- Which places lie within the sides, and their numbers, as the program says it. -/
import Derived.Test.YtbndhhjgjalecabDoorSzHv
namespace Go.Proofs.YtbndhhjgjalecabDoor
open Go.RowKit

set_option maxHeartbeats 1000000 in
theorem have_any (W H x y : Int) (w : World) :
    Calls Tryd.prog 40 #[sd W H, .int .i64 x, .int .i64 y] w fun e w' => e = .returned (.bool (hvB W H x y)) ∧ Below w.heap.size w w' := by
  have hb0 : Below w.heap.size w (w.alloc (.cells #[.int .i64 W, .int .i64 H] 41)) := (Below.refl _ _).alloc (Nat.le_refl _) _
  by_cases h1 : 0 ≤ x
  · by_cases h2 : x < W
    · by_cases h3 : 0 ≤ y
      · by_cases h4 : y < H
        · rw [hvB_mk ⟨h1, h2, h3, h4⟩]
          go_enter Tryd.func40, Tryd.ntmps40
          go_wp2
          go_ret
          exact ⟨rfl, hb0⟩
        · rw [hvB_f (by omega)]
          go_enter Tryd.func40, Tryd.ntmps40
          go_wp2
          go_ret
          exact ⟨rfl, hb0⟩
      · rw [hvB_f (by omega)]
        go_enter Tryd.func40, Tryd.ntmps40
        go_wp2
        go_ret
        exact ⟨rfl, hb0⟩
    · rw [hvB_f (by omega)]
      go_enter Tryd.func40, Tryd.ntmps40
      go_wp2
      go_ret
      exact ⟨rfl, hb0⟩
  · rw [hvB_f (by omega)]
    go_enter Tryd.func40, Tryd.ntmps40
    go_wp2
    go_ret
    exact ⟨rfl, hb0⟩
set_option maxHeartbeats 1000000 in
theorem number_any (W H x y : Int) (w : World) (h0 : 0 ≤ y * W) (h1 : y * W ≤ 1000) (h2 : 0 ≤ x) (h3 : x ≤ 1000) :
    Calls Tryd.prog 37 #[sd W H, .int .i64 x, .int .i64 y] w fun e w' => e = .returned (.int .i64 (y * W + x)) ∧ Below w.heap.size w w' := by
  have hb0 : Below w.heap.size w (w.alloc (.cells #[.int .i64 W, .int .i64 H] 41)) := (Below.refl _ _).alloc (Nat.le_refl _) _
  go_enter Tryd.func37, Tryd.ntmps37
  go_wp2
  go_ret
  exact ⟨rfl, hb0⟩
end Go.Proofs.YtbndhhjgjalecabDoor
