/- The cells around one; steps are alike both ways. -/
import Derived.Test.YtfciecoigfnnhaaQSzHv
import Derived.Test.YtfciecoigfnnhaaQInCore
namespace Go.Proofs.Ytfciecoigfnnhaa
open Go.RowKit

def arX (p : Nat) : Int := ((p % 3 : Nat) : Int) - 1
def arY (p : Nat) : Int := ((p / 3 : Nat) : Int) - 1
def arIn (W : Int) (n : Nat) (a : Int) (p : Nat) : Bool := hvB W (hgt W n) (a % W + arX p) (a / W + arY p) && (decide (arX p ≠ 0) || decide (arY p ≠ 0))
def arV (W a : Int) (p : Nat) : Int := (a / W + arY p) * W + (a % W + arX p)
/-- the cells around one, of the first k places around it -/
def arK (W : Int) (n : Nat) (a : Int) : Nat → List Int
  | 0 => []
  | p + 1 => if arIn W n a p then arK W n a p ++ [arV W a p] else arK W n a p
theorem arK_len (W : Int) (n : Nat) (a : Int) (k : Nat) : (arK W n a k).length ≤ k := by
  induction k with
  | zero => simp [arK]
  | succ k ih =>
    unfold arK
    split
    · simp; omega
    · omega
theorem mem_arK {W : Int} {n : Nat} {a v : Int} {k : Nat} : v ∈ arK W n a k ↔ ∃ p, p < k ∧ arIn W n a p = true ∧ v = arV W a p := by
  induction k with
  | zero => simp [arK]
  | succ k ih =>
    unfold arK
    constructor
    · intro h
      split at h
      · next e =>
        simp only [List.mem_append, List.mem_singleton] at h
        rcases h with h | h
        · obtain ⟨p, h1, h2, h3⟩ := ih.1 h
          exact ⟨p, by omega, h2, h3⟩
        · exact ⟨k, by omega, e, h⟩
      · obtain ⟨p, h1, h2, h3⟩ := ih.1 h
        exact ⟨p, by omega, h2, h3⟩
    · rintro ⟨p, h1, h2, h3⟩
      by_cases e : p = k
      · subst e
        rw [if_pos h2]
        simp [h3]
      · have := ih.2 ⟨p, by omega, h2, h3⟩
        split
        · simp [this]
        · exact this
theorem arV_in {W : Int} {n : Nat} {a : Int} {p : Nat} (hs : sizedB W n = true) (h : arIn W n a p = true) : 0 ≤ arV W a p ∧ arV W a p < (n : Int) := by
  simp only [arIn, Bool.and_eq_true] at h
  have q := hvB_t h.1
  have r := idx_bd (hgt_mul hs).1 q
  unfold arV
  omega
/-- a cell's place, by its number -/
theorem place_of {W x y : Int} (h0 : 0 ≤ x) (h1 : x < W) : (y * W + x) % W = x ∧ (y * W + x) / W = y := by
  have hW : W ≠ 0 := by omega
  constructor
  · rw [Int.add_comm, Int.mul_comm, Int.add_mul_emod_self_left]
    exact Int.emod_eq_of_lt h0 h1
  · rw [Int.add_comm, Int.mul_comm, Int.add_mul_ediv_left _ _ hW, Int.ediv_eq_zero_of_lt h0 h1]
    omega
theorem num_of (W a : Int) : a = a / W * W + a % W := by
  have := Int.mul_ediv_add_emod a W
  rw [Int.mul_comm] at this
  omega
/-- where the number at a place stands in the list is where the place is -/
theorem arV_place {W : Int} {n : Nat} {a : Int} {p : Nat} (h : arIn W n a p = true) : arV W a p % W = a % W + arX p ∧ arV W a p / W = a / W + arY p := by
  simp only [arIn, Bool.and_eq_true] at h
  have q := hvB_t h.1
  unfold arV
  exact place_of q.1 q.2.1
/-- the list rises -/
theorem arV_lt {W : Int} {n : Nat} {a : Int} {p q : Nat} (hpq : p < q) (hp : arIn W n a p = true) (hq : arIn W n a q = true) : arV W a p < arV W a q := by
  simp only [arIn, Bool.and_eq_true] at hp hq
  have h1 := hvB_t hp.1
  have h2 := hvB_t hq.1
  unfold arV
  by_cases e : p / 3 = q / 3
  · have e2 : arY p = arY q := by unfold arY; rw [e]
    have e3 : arX p < arX q := by unfold arX; omega
    rw [e2]
    omega
  · have e2 : arY p + 1 ≤ arY q := by unfold arY; omega
    have m := Int.mul_le_mul_of_nonneg_right (show a / W + arY p + 1 ≤ a / W + arY q by omega) (show 0 ≤ W by omega)
    rw [Int.add_mul] at m
    omega
/-- whatever is a step away is in the list -/
theorem step_in {W : Int} {n : Nat} {f : Nat → Int} {a b : Int} (hs : sizedB W n = true) (h : stepV W n f a b ≠ 0) : ∃ p, p < 9 ∧ arIn W n a p = true ∧ b = arV W a p := by
  obtain ⟨k1, k2, _, _, _⟩ := sizedB_t hs
  obtain ⟨m1, m2, m3⟩ := hgt_mul hs
  unfold stepV at h
  split at h
  · next hf =>
    simp only [Bool.and_eq_true] at hf
    obtain ⟨b0, b1, _⟩ := frB_t hf.2
    have hx0 := Int.emod_nonneg b (b := W) (by omega)
    have hx1 := Int.emod_lt_of_pos b (b := W) (by omega)
    have hy0 := Int.ediv_nonneg (a := b) (b := W) b0 (by omega)
    have hy1 : b / W < hgt W n := Int.ediv_lt_of_lt_mul (by omega) (by rw [m1]; exact b1)
    have hd : (b % W - a % W).natAbs ≤ 1 ∧ (b / W - a / W).natAbs ≤ 1 ∧ ¬ ((b % W - a % W) = 0 ∧ (b / W - a / W) = 0) := by
      split at h
      · omega
      · split at h
        · next e => obtain ⟨e1, e2, _⟩ := e; omega
        · exact absurd rfl h
    obtain ⟨d1, d2, d3⟩ := hd
    have hp : ∃ p, p < 9 ∧ arX p = b % W - a % W ∧ arY p = b / W - a / W := by
      refine ⟨((b / W - a / W + 1) * 3 + (b % W - a % W + 1)).toNat, by omega, ?_, ?_⟩
      · unfold arX; omega
      · unfold arY; omega
    obtain ⟨p, p1, p2, p3⟩ := hp
    refine ⟨p, p1, ?_, ?_⟩
    · simp only [arIn, Bool.and_eq_true]
      refine ⟨hvB_mk ⟨by omega, by omega, by omega, by omega⟩, ?_⟩
      simp only [Bool.or_eq_true, decide_eq_true_eq]
      omega
    · unfold arV
      have := num_of W b
      rw [show a / W + arY p = b / W by omega, show a % W + arX p = b % W by omega]
      exact this
  · exact absurd rfl h
theorem step_sym (W : Int) (n : Nat) (f : Nat → Int) (a b : Int) : stepV W n f a b = stepV W n f b a := by
  have ha := num_of W a
  have hb := num_of W b
  have e1 : a + (b % W - a % W) = b + (a / W - b / W) * W := by rw [Int.sub_mul]; omega
  have e2 : a + (b / W - a / W) * W = b + (a % W - b % W) := by rw [Int.sub_mul]; omega
  have n1 : (b % W - a % W).natAbs = (a % W - b % W).natAbs := by omega
  have n2 : (b / W - a / W).natAbs = (a / W - b / W).natAbs := by omega
  unfold stepV
  rw [e1, e2, n1, n2, Bool.and_comm (frB n f a)]
  have e3 : ((a % W - b % W).natAbs = 1 ∧ (a / W - b / W).natAbs = 1 ∧ frB n f (b + (a / W - b / W) * W) = true ∧ frB n f (b + (a % W - b % W)) = true) = ((a % W - b % W).natAbs = 1 ∧ (a / W - b / W).natAbs = 1 ∧ frB n f (b + (a % W - b % W)) = true ∧ frB n f (b + (a / W - b / W) * W) = true) :=
    propext ⟨fun h => ⟨h.1, h.2.1, h.2.2.2, h.2.2.1⟩, fun h => ⟨h.1, h.2.1, h.2.2.2, h.2.2.1⟩⟩
  simp only [e3]
theorem step_lt {W : Int} {n : Nat} {f : Nat → Int} {i k : Nat} (h : stepV W n f (i : Int) (k : Int) ≠ 0) : i < n ∧ k < n := by
  unfold stepV at h
  split at h
  · next hf =>
    simp only [Bool.and_eq_true] at hf
    have := frB_t hf.1
    have := frB_t hf.2
    omega
  · exact absurd rfl h
end Go.Proofs.Ytfciecoigfnnhaa

/- Costs of steps: the sign of a number of straight steps and a number of slant ones, the latter times the root of two. -/
namespace Go.Proofs.Ytfciecoigfnnhaa
open Go.RowKit

def sgI (n : Int) : Int := if n < 0 then -1 else if 0 < n then 1 else 0
def cmpV (a b : Int) : Int := if sgI a = sgI b ∨ b = 0 then sgI a else if a = 0 then sgI b else if 2 * b * b < a * a then sgI a else sgI b
def stB (n : Int) : Bool := decide (0 ≤ n) && decide (n ≤ 1000000)
def cstB (a b c d : Int) : Bool := stB a && stB b && stB c && stB d
/-- what CmpCost tells -/
def cstV (a b c d : Int) : Int := if cstB a b c d then cmpV (a - c) (b - d) else 0
theorem stB_t {n : Int} (h : stB n = true) : 0 ≤ n ∧ n ≤ 1000000 := by simpa [stB] using h
theorem sq_le {a : Int} (h0 : -1000000 ≤ a) (h1 : a ≤ 1000000) : 0 ≤ a * a ∧ a * a ≤ 1000000000000 := by
  have e : a * a = ((a.natAbs * a.natAbs : Nat) : Int) := by
    rw [Int.natCast_mul, ← Int.natAbs_mul_self' a]
  have h2 : a.natAbs ≤ 1000000 := by omega
  have h3 := Nat.mul_le_mul h2 h2
  omega
end Go.Proofs.Ytfciecoigfnnhaa

/- Costs by one number: the root of two is near enough to 577 / 408 for numbers of at most 400 slant steps. -/
namespace Go.Proofs.Ytfciecoigfnnhaa
open Go.RowKit

def ky (a b : Int) : Int := 408 * a + 577 * b
theorem sqm {x y : Int} (h0 : 0 ≤ x) (h : x ≤ y) : x * x ≤ y * y := Int.mul_le_mul h h h0 (by omega)
theorem mul4 (x a : Int) : x * a * (x * a) = x * x * (a * a) := by rw [Int.mul_assoc, Int.mul_left_comm a x a, ← Int.mul_assoc]
theorem key_up {a b : Int} (ha : 0 < a) (hb : 0 < b) (hb4 : b ≤ 400) (h : 2 * (b * b) < a * a) : 577 * b < 408 * a := by
  by_cases k : 577 * b < 408 * a
  · exact k
  · exfalso
    have s := sqm (x := 408 * a) (y := 577 * b) (by omega) (by omega)
    have t := sqm (x := b) (y := 400) (by omega) hb4
    have e1 : 408 * a * (408 * a) = 166464 * (a * a) := by rw [mul4]; rfl
    have e2 : 577 * b * (577 * b) = 332929 * (b * b) := by rw [mul4]; rfl
    rw [e1, e2] at s
    omega
theorem key_down {a b : Int} (_ha : 0 < a) (hb : 0 < b) (h : ¬ 2 * (b * b) < a * a) : 408 * a < 577 * b := by
  by_cases k : 408 * a < 577 * b
  · exact k
  · exfalso
    have s := sqm (x := 577 * b) (y := 408 * a) (by omega) (by omega)
    have t := sqm (x := 1) (y := b) (by omega) (by omega)
    have e1 : 408 * a * (408 * a) = 166464 * (a * a) := by rw [mul4]; rfl
    have e2 : 577 * b * (577 * b) = 332929 * (b * b) := by rw [mul4]; rfl
    rw [e1, e2] at s
    omega
theorem neg_sq (a : Int) : -a * -a = a * a := by rw [Int.neg_mul_neg]
theorem cmp_key {a b : Int} (h0 : -400 ≤ b) (h1 : b ≤ 400) : cmpV a b = sgI (ky a b) := by
  unfold cmpV ky
  by_cases b0 : b = 0
  · subst b0
    simp only [or_true, if_true]
    unfold sgI
    repeat' split
    all_goals omega
  by_cases a0 : a = 0
  · subst a0
    by_cases hb : b < 0
    · simp [sgI, hb, b0]; omega
    · have : 0 < b := by omega
      simp [sgI, hb, b0, this]; omega
  by_cases ha : 0 < a
  · by_cases hb : 0 < b
    · have e1 : sgI a = 1 := by unfold sgI; rw [if_neg (by omega), if_pos ha]
      have e2 : sgI b = 1 := by unfold sgI; rw [if_neg (by omega), if_pos hb]
      have e3 : sgI (408 * a + 577 * b) = 1 := by unfold sgI; rw [if_neg (by omega), if_pos (by omega)]
      rw [e1, e2, e3]; simp
    · have e1 : sgI a = 1 := by unfold sgI; rw [if_neg (by omega), if_pos ha]
      have e2 : sgI b = -1 := by unfold sgI; rw [if_pos (by omega)]
      rw [e1, e2, if_neg (by simp [b0]), if_neg a0, Int.mul_assoc, ← neg_sq b]
      by_cases k : 2 * (-b * -b) < a * a
      · have q := key_up ha (by omega) (by omega) k
        rw [if_pos k]; unfold sgI; rw [if_neg (by omega), if_pos (by omega)]
      · have q := key_down ha (by omega) k
        rw [if_neg k]; unfold sgI; rw [if_pos (by omega)]
  · by_cases hb : 0 < b
    · have e1 : sgI a = -1 := by unfold sgI; rw [if_pos (by omega)]
      have e2 : sgI b = 1 := by unfold sgI; rw [if_neg (by omega), if_pos hb]
      rw [e1, e2, if_neg (by simp [b0]), if_neg a0, Int.mul_assoc, ← neg_sq a]
      by_cases k : 2 * (b * b) < -a * -a
      · have q := key_up (a := -a) (by omega) hb (by omega) k
        rw [if_pos k]; unfold sgI; rw [if_pos (by omega)]
      · have q := key_down (a := -a) (by omega) hb k
        rw [if_neg k]; unfold sgI; rw [if_neg (by omega), if_pos (by omega)]
    · have e1 : sgI a = -1 := by unfold sgI; rw [if_pos (by omega)]
      have e2 : sgI b = -1 := by unfold sgI; rw [if_pos (by omega)]
      have e3 : sgI (408 * a + 577 * b) = -1 := by unfold sgI; rw [if_pos (by omega)]
      rw [e1, e2, e3]; simp
theorem ky_inj {a b c d : Int} (hb : 0 ≤ b ∧ b ≤ 400) (hd : 0 ≤ d ∧ d ≤ 400) (h : ky a b = ky c d) : a = c ∧ b = d := by
  unfold ky at h
  omega
theorem sg_lt {x : Int} : sgI x < 0 ↔ x < 0 := by
  unfold sgI
  repeat' split
  all_goals omega
theorem sg_zero {x : Int} : sgI x = 0 ↔ x = 0 := by
  unfold sgI
  repeat' split
  all_goals omega
end Go.Proofs.Ytfciecoigfnnhaa
