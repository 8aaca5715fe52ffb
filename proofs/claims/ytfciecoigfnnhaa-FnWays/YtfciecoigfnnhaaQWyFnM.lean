/- What FnWays asks, as numbers: steps are clear, a way that is told is one, and costs least; pulled, its legs are clear. -/
import Derived.Test.YtfciecoigfnnhaaQClSFree
import Derived.Test.YtfciecoigfnnhaaQWyCost
namespace Go.Proofs.Ytfciecoigfnnhaa
open Go.RowKit

/-- seen from its other end every corner lies on the other side -/
theorem crV_swap (x1 y1 x2 y2 cx cy : Int) (p : Nat) : crV x2 y2 x1 y1 cx cy p = - crV x1 y1 x2 y2 cx cy p := by
  unfold crV
  generalize sdV cy (p % 2) = Y
  generalize sdV cx (p / 2) = X
  have e1 : (x1 - x2) * (Y - y2) = x1 * Y - x1 * y2 - x2 * Y + x2 * y2 := by rw [Int.sub_mul, Int.mul_sub, Int.mul_sub]; omega
  have e2 : (y1 - y2) * (X - x2) = y1 * X - y1 * x2 - y2 * X + y2 * x2 := by rw [Int.sub_mul, Int.mul_sub, Int.mul_sub]; omega
  have e3 : (x2 - x1) * (Y - y1) = x2 * Y - x2 * y1 - x1 * Y + x1 * y1 := by rw [Int.sub_mul, Int.mul_sub, Int.mul_sub]; omega
  have e4 : (y2 - y1) * (X - x1) = y2 * X - y2 * x1 - y1 * X + y1 * x1 := by rw [Int.sub_mul, Int.mul_sub, Int.mul_sub]; omega
  rw [e1, e2, e3, e4, Int.mul_comm y1 x2, Int.mul_comm y2 x2, Int.mul_comm y2 x1, Int.mul_comm y1 x1]
  omega
theorem cPos_neg (s : Nat → Int) (k : Nat) : cPos (fun p => - s p) k = cNeg s k := by
  induction k with
  | zero => rfl
  | succ k ih =>
    unfold cPos cNeg
    rw [ih]
    by_cases h : s k < 0
    · rw [if_pos h, if_pos (by omega)]
    · rw [if_neg h, if_neg (by omega)]
theorem cNeg_neg (s : Nat → Int) (k : Nat) : cNeg (fun p => - s p) k = cPos s k := by
  induction k with
  | zero => rfl
  | succ k ih =>
    unfold cPos cNeg
    rw [ih]
    by_cases h : 0 < s k
    · rw [if_pos h, if_pos (by omega)]
    · rw [if_neg h, if_neg (by omega)]
theorem metB_swap (x1 y1 x2 y2 cx cy : Int) : metB x2 y2 x1 y1 cx cy = metB x1 y1 x2 y2 cx cy := by
  have e : crV x2 y2 x1 y1 cx cy = fun p => - crV x1 y1 x2 y2 cx cy p := funext fun p => crV_swap x1 y1 x2 y2 cx cy p
  have o : outB x2 y2 x1 y1 cx cy = outB x1 y1 x2 y2 cx cy := by
    unfold outB
    rw [Bool.and_comm (decide (x2 < 2 * cx - 1)), Bool.and_comm (decide (2 * cx + 1 < x2)), Bool.and_comm (decide (y2 < 2 * cy - 1)), Bool.and_comm (decide (2 * cy + 1 < y2))]
  unfold metB
  rw [o, e, cPos_neg, cNeg_neg, Bool.and_assoc, Bool.and_assoc, Bool.and_comm (decide (cNeg _ 4 < 4))]
theorem clK_swap (W : Int) (f : Nat → Int) (a b : Int) (k : Nat) : clK W f b a k = clK W f a b k := by
  induction k with
  | zero => rfl
  | succ k ih => unfold clK; rw [ih, metB_swap]
theorem clrB_swap (W : Int) (n : Nat) (f : Nat → Int) (a b : Int) : clrB W n f b a = clrB W n f a b := by
  unfold clrB
  rw [clK_swap, Bool.and_comm (frB n f b)]
/-- what a step meets is free: the cells are within one of each end -/
theorem met_near {x1 y1 x2 y2 cx cy : Int} (hx : -1 ≤ x2 - x1 ∧ x2 - x1 ≤ 1) (hy : -1 ≤ y2 - y1 ∧ y2 - y1 ≤ 1) (h : metB (2 * x1) (2 * y1) (2 * x2) (2 * y2) cx cy = true) :
    (cx = x1 ∨ cx = x2) ∧ (cy = y1 ∨ cy = y2) := by
  unfold metB at h
  simp only [Bool.and_eq_true, Bool.not_eq_true', outB, Bool.or_eq_false_iff, Bool.and_eq_false_iff, decide_eq_false_iff_not] at h
  omega
theorem clK_all {W : Int} {f : Nat → Int} {a b : Int} {k : Nat} (h : ∀ i, i < k → f i = 0 ∨ metB (2 * (a % W)) (2 * (a / W)) (2 * (b % W)) (2 * (b / W)) ((i : Int) % W) ((i : Int) / W) = false) : clK W f a b k = true := by
  induction k with
  | zero => rfl
  | succ k ih =>
    unfold clK
    rw [ih (fun i hi => h i (by omega))]
    rcases h k (by omega) with e | e
    · simp [e]
    · simp [e]
theorem step_clear {W : Int} {n : Nat} {f : Nat → Int} {a b : Int} (h : stepV W n f a b ≠ 0) : clrB W n f a b = true := by
  unfold stepV at h
  split at h
  · next hf =>
    simp only [Bool.and_eq_true] at hf
    obtain ⟨fa, fb⟩ := hf
    have ha := frB_t fa
    have hb := frB_t fb
    unfold clrB
    rw [fa, fb]
    simp only [Bool.and_self, Bool.true_and]
    refine clK_all fun i hi => ?_
    cases em : metB (2 * (a % W)) (2 * (a / W)) (2 * (b % W)) (2 * (b / W)) ((i : Int) % W) ((i : Int) / W) with
    | false => exact .inr rfl
    | true =>
      left
      have hi' := num_of W (i : Int)
      have na := num_of W a
      have nb := num_of W b
      have hcase : ((b % W - a % W).natAbs + (b / W - a / W).natAbs = 1) ∨ ((b % W - a % W).natAbs = 1 ∧ (b / W - a / W).natAbs = 1 ∧ frB n f (a + (b % W - a % W)) = true ∧ frB n f (a + (b / W - a / W) * W) = true) := by
        split at h
        · next e => exact .inl e
        · split at h
          · next e => exact .inr e
          · exact absurd rfl h
      have hd : -1 ≤ b % W - a % W ∧ b % W - a % W ≤ 1 ∧ -1 ≤ b / W - a / W ∧ b / W - a / W ≤ 1 := by
        rcases hcase with e | ⟨e1, e2, _⟩ <;> omega
      obtain ⟨m1, m2⟩ := met_near ⟨hd.1, hd.2.1⟩ ⟨hd.2.2.1, hd.2.2.2⟩ em
      have key : (i : Int) = a ∨ (i : Int) = b ∨ ((i : Int) = a + (b % W - a % W)) ∨ ((i : Int) = a + (b / W - a / W) * W) := by
        rcases m2 with e2 | e2
        · rcases m1 with e1 | e1
          · left; rw [e1, e2] at hi'; omega
          · right; right; left; rw [e1, e2] at hi'; omega
        · rcases m1 with e1 | e1
          · right; right; right; rw [e1, e2] at hi'; rw [Int.sub_mul]; omega
          · right; left; rw [e1, e2] at hi'; omega
      have fr : ∀ c : Int, frB n f c = true → (i : Int) = c → f i = 0 := fun c hc e => by
        have := (frB_t hc).2.2
        rw [← e] at this
        simpa using this
      rcases key with e | e | e | e
      · exact fr a fa e
      · exact fr b fb e
      · rcases hcase with q | ⟨_, _, q, _⟩
        · by_cases z : b % W - a % W = 0
          · exact fr a fa (by omega)
          · have : b / W = a / W := by omega
            refine fr b fb ?_
            rw [this] at nb
            omega
        · exact fr _ q e
      · rcases hcase with q | ⟨_, _, _, q⟩
        · by_cases z : b / W - a / W = 0
          · refine fr a fa ?_
            rw [z] at e
            omega
          · have : b % W = a % W := by omega
            refine fr b fb ?_
            rw [Int.sub_mul] at e
            omega
        · exact fr _ q e
  · exact absurd rfl h
end Go.Proofs.Ytfciecoigfnnhaa
