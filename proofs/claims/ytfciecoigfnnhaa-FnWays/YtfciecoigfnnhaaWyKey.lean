/- Costs by one number: the root of two is near enough to 577 / 408 for numbers of at most 400 slant steps. -/
import Derived.Test.YtfciecoigfnnhaaWyMath
namespace Go.Proofs.Ytfciecoigfnnhaa
open Go.RowKit

def ky (a b : Int) : Int := 408 * a + 577 * b
theorem sqm {x y : Int} (h0 : 0 ≤ x) (h : x ≤ y) : x * x ≤ y * y := Int.mul_le_mul h h h0 (by omega)
theorem mul4 (x a : Int) : x * a * (x * a) = x * x * (a * a) := by rw [Int.mul_assoc, Int.mul_left_comm a x a, ← Int.mul_assoc]
theorem key_up {a b : Int} (ha : 0 < a) (hb : 0 < b) (hb4 : b ≤ 400) (h : 2 * (b * b) < a * a) : 577 * b < 408 * a := by
  by_cases k : 577 * b < 408 * a
  · exact k
  · exfalso
    have s := sqm (x := 408 * a) (y := 577 * b) (by omega) (by omega)
    have t := sqm (x := b) (y := 400) (by omega) hb4
    have e1 : 408 * a * (408 * a) = 166464 * (a * a) := by rw [mul4]; rfl
    have e2 : 577 * b * (577 * b) = 332929 * (b * b) := by rw [mul4]; rfl
    rw [e1, e2] at s
    omega
theorem key_down {a b : Int} (_ha : 0 < a) (hb : 0 < b) (h : ¬ 2 * (b * b) < a * a) : 408 * a < 577 * b := by
  by_cases k : 408 * a < 577 * b
  · exact k
  · exfalso
    have s := sqm (x := 577 * b) (y := 408 * a) (by omega) (by omega)
    have t := sqm (x := 1) (y := b) (by omega) (by omega)
    have e1 : 408 * a * (408 * a) = 166464 * (a * a) := by rw [mul4]; rfl
    have e2 : 577 * b * (577 * b) = 332929 * (b * b) := by rw [mul4]; rfl
    rw [e1, e2] at s
    omega
theorem neg_sq (a : Int) : -a * -a = a * a := by rw [Int.neg_mul_neg]
theorem cmp_key {a b : Int} (h0 : -400 ≤ b) (h1 : b ≤ 400) : cmpV a b = sgI (ky a b) := by
  unfold cmpV ky
  by_cases b0 : b = 0
  · subst b0
    simp only [or_true, if_true]
    unfold sgI
    repeat' split
    all_goals omega
  by_cases a0 : a = 0
  · subst a0
    by_cases hb : b < 0
    · simp [sgI, hb, b0]; omega
    · have : 0 < b := by omega
      simp [sgI, hb, b0, this]; omega
  by_cases ha : 0 < a
  · by_cases hb : 0 < b
    · have e1 : sgI a = 1 := by unfold sgI; rw [if_neg (by omega), if_pos ha]
      have e2 : sgI b = 1 := by unfold sgI; rw [if_neg (by omega), if_pos hb]
      have e3 : sgI (408 * a + 577 * b) = 1 := by unfold sgI; rw [if_neg (by omega), if_pos (by omega)]
      rw [e1, e2, e3]; simp
    · have e1 : sgI a = 1 := by unfold sgI; rw [if_neg (by omega), if_pos ha]
      have e2 : sgI b = -1 := by unfold sgI; rw [if_pos (by omega)]
      rw [e1, e2, if_neg (by simp [b0]), if_neg a0, Int.mul_assoc, ← neg_sq b]
      by_cases k : 2 * (-b * -b) < a * a
      · have q := key_up ha (by omega) (by omega) k
        rw [if_pos k]; unfold sgI; rw [if_neg (by omega), if_pos (by omega)]
      · have q := key_down ha (by omega) k
        rw [if_neg k]; unfold sgI; rw [if_pos (by omega)]
  · by_cases hb : 0 < b
    · have e1 : sgI a = -1 := by unfold sgI; rw [if_pos (by omega)]
      have e2 : sgI b = 1 := by unfold sgI; rw [if_neg (by omega), if_pos hb]
      rw [e1, e2, if_neg (by simp [b0]), if_neg a0, Int.mul_assoc, ← neg_sq a]
      by_cases k : 2 * (b * b) < -a * -a
      · have q := key_up (a := -a) (by omega) hb (by omega) k
        rw [if_pos k]; unfold sgI; rw [if_pos (by omega)]
      · have q := key_down (a := -a) (by omega) hb k
        rw [if_neg k]; unfold sgI; rw [if_neg (by omega), if_pos (by omega)]
    · have e1 : sgI a = -1 := by unfold sgI; rw [if_pos (by omega)]
      have e2 : sgI b = -1 := by unfold sgI; rw [if_pos (by omega)]
      have e3 : sgI (408 * a + 577 * b) = -1 := by unfold sgI; rw [if_pos (by omega)]
      rw [e1, e2, e3]; simp
theorem ky_inj {a b c d : Int} (hb : 0 ≤ b ∧ b ≤ 400) (hd : 0 ≤ d ∧ d ≤ 400) (h : ky a b = ky c d) : a = c ∧ b = d := by
  unfold ky at h
  omega
theorem sg_lt {x : Int} : sgI x < 0 ↔ x < 0 := by
  unfold sgI
  repeat' split
  all_goals omega
theorem sg_zero {x : Int} : sgI x = 0 ↔ x = 0 := by
  unfold sgI
  repeat' split
  all_goals omega
end Go.Proofs.Ytfciecoigfnnhaa
