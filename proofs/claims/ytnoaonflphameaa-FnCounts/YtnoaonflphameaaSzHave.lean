/- Which places lie within the sides, and their numbers. -/
import Derived.Test.YtnoaonflphameaaSzBase
namespace Go.Proofs.Ytnoaonflphameaa
open Go.RowKit

def hvB (W H x y : Int) : Bool := decide (0 ≤ x) && decide (x < W) && decide (0 ≤ y) && decide (y < H)
theorem hvB_t {W H x y : Int} (h : hvB W H x y = true) : 0 ≤ x ∧ x < W ∧ 0 ≤ y ∧ y < H := by simpa [hvB, and_assoc] using h
theorem hvB_mk {W H x y : Int} (h : 0 ≤ x ∧ x < W ∧ 0 ≤ y ∧ y < H) : hvB W H x y = true := by simpa [hvB, and_assoc] using h
theorem hvB_f {W H x y : Int} (h : ¬ (0 ≤ x ∧ x < W ∧ 0 ≤ y ∧ y < H)) : hvB W H x y = false := by
  cases e : hvB W H x y with
  | false => rfl
  | true => exact absurd (hvB_t e) h
theorem idx_bd {W H x y : Int} {n : Nat} (hH : H * W = (n : Int)) (h : 0 ≤ x ∧ x < W ∧ 0 ≤ y ∧ y < H) : 0 ≤ y * W ∧ y * W + x < (n : Int) := by
  obtain ⟨h1, h2, h3, h4⟩ := h
  have a1 := Int.mul_nonneg h3 (show 0 ≤ W by omega)
  have a2 := Int.mul_le_mul_of_nonneg_right (show y + 1 ≤ H by omega) (show 0 ≤ W by omega)
  rw [Int.add_mul] at a2
  omega

set_option maxHeartbeats 1000000 in
theorem have_any (W H x y : Int) (w : World) :
    Calls Try.prog 32 #[sd W H, .int .i64 x, .int .i64 y] w fun e w' => e = .returned (.bool (hvB W H x y)) ∧ Below w.heap.size w w' := by
  have hb0 : Below w.heap.size w (w.alloc (.cells #[.int .i64 W, .int .i64 H] 67)) := (Below.refl _ _).alloc (Nat.le_refl _) _
  by_cases h1 : 0 ≤ x
  · by_cases h2 : x < W
    · by_cases h3 : 0 ≤ y
      · by_cases h4 : y < H
        · rw [hvB_mk ⟨h1, h2, h3, h4⟩]
          go_enter Try.func32, Try.ntmps32
          go_wp2
          go_ret
          exact ⟨rfl, hb0⟩
        · rw [hvB_f (by omega)]
          go_enter Try.func32, Try.ntmps32
          go_wp2
          go_ret
          exact ⟨rfl, hb0⟩
      · rw [hvB_f (by omega)]
        go_enter Try.func32, Try.ntmps32
        go_wp2
        go_ret
        exact ⟨rfl, hb0⟩
    · rw [hvB_f (by omega)]
      go_enter Try.func32, Try.ntmps32
      go_wp2
      go_ret
      exact ⟨rfl, hb0⟩
  · rw [hvB_f (by omega)]
    go_enter Try.func32, Try.ntmps32
    go_wp2
    go_ret
    exact ⟨rfl, hb0⟩
set_option maxHeartbeats 1000000 in
theorem number_any (W H x y : Int) (w : World) (h0 : 0 ≤ y * W) (h1 : y * W ≤ 1000) (h2 : 0 ≤ x) (h3 : x ≤ 1000) :
    Calls Try.prog 35 #[sd W H, .int .i64 x, .int .i64 y] w fun e w' => e = .returned (.int .i64 (y * W + x)) ∧ Below w.heap.size w w' := by
  have hb0 : Below w.heap.size w (w.alloc (.cells #[.int .i64 W, .int .i64 H] 67)) := (Below.refl _ _).alloc (Nat.le_refl _) _
  go_enter Try.func35, Try.ntmps35
  go_wp2
  go_ret
  exact ⟨rfl, hb0⟩
end Go.Proofs.Ytnoaonflphameaa
