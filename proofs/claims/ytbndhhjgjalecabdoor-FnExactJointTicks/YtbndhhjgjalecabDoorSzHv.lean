/- Which places lie within the sides. -/
import Derived.Test.YtbndhhjgjalecabDoorSzBase
namespace Go.Proofs.YtbndhhjgjalecabDoor
open Go.RowKit

def hvB (W H x y : Int) : Bool := decide (0 ≤ x) && decide (x < W) && decide (0 ≤ y) && decide (y < H)
theorem hvB_t {W H x y : Int} (h : hvB W H x y = true) : 0 ≤ x ∧ x < W ∧ 0 ≤ y ∧ y < H := by simpa [hvB, and_assoc] using h
theorem hvB_mk {W H x y : Int} (h : 0 ≤ x ∧ x < W ∧ 0 ≤ y ∧ y < H) : hvB W H x y = true := by simpa [hvB, and_assoc] using h
theorem hvB_f {W H x y : Int} (h : ¬ (0 ≤ x ∧ x < W ∧ 0 ≤ y ∧ y < H)) : hvB W H x y = false := by
  cases e : hvB W H x y with
  | false => rfl
  | true => exact absurd (hvB_t e) h
theorem idx_bd {W H x y : Int} {n : Nat} (hH : H * W = (n : Int)) (h : 0 ≤ x ∧ x < W ∧ 0 ≤ y ∧ y < H) : 0 ≤ y * W ∧ y * W + x < (n : Int) := by
  obtain ⟨h1, h2, h3, h4⟩ := h
  have a1 := Int.mul_nonneg h3 (show 0 ≤ W by omega)
  have a2 := Int.mul_le_mul_of_nonneg_right (show y + 1 ≤ H by omega) (show 0 ≤ W by omega)
  rw [Int.add_mul] at a2
  omega
end Go.Proofs.YtbndhhjgjalecabDoor
