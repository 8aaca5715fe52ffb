/- Turns as pairs of numbers: what is good, and the plain one of a pair. -/
import Derived.Test.YtpnbkmlmbfogdaaRows
namespace Go.Proofs.Ytpnbkmlmbfogdaa

/-- the divisor by which a pair becomes plain -/
def sg (p q : Int) : Int := if q < 0 ∨ (q = 0 ∧ p < 0) then -(Int.gcd p q : Int) else (Int.gcd p q : Int)
def pP (p q : Int) : Int := Int.tdiv p (sg p q)
def pQ (p q : Int) : Int := Int.tdiv q (sg p q)
def inB (n : Int) : Bool := decide (-1000000 ≤ n) && decide (n ≤ 1000000)
/-- within the limits, Q not below 0 -/
def fitT (p q : Int) : Bool := inB p && decide (0 ≤ q) && decide (q ≤ 1000000)
def plainB (p q : Int) : Bool := if q = 0 then decide (p = 1) else decide (Int.gcd p q = 1)
def goodT (p q : Int) : Bool := fitT p q && plainB p q
/-- what is told of a pair: the plain one where it fits -/
def tellP (p q : Int) : Int := if fitT (pP p q) (pQ p q) then pP p q else 0
def tellQ (p q : Int) : Int := if fitT (pP p q) (pQ p q) then pQ p q else 0

theorem fit_iff {p q : Int} : fitT p q = true ↔ -1000000 ≤ p ∧ p ≤ 1000000 ∧ 0 ≤ q ∧ q ≤ 1000000 := by
  unfold fitT inB
  simp [and_assoc]

theorem gcd_pos {p q : Int} (h : ¬ (p = 0 ∧ q = 0)) : 0 < Int.gcd p q := by
  rcases Nat.eq_zero_or_pos (Int.gcd p q) with h0 | h0
  · exact absurd (Int.gcd_eq_zero_iff.mp h0) h
  · exact h0

theorem sg_ne {p q : Int} (h : ¬ (p = 0 ∧ q = 0)) : ¬ sg p q = 0 := by
  have := gcd_pos h
  unfold sg
  split <;> omega

/-- a pair without what is common -/
theorem parts (p q : Int) (h : ¬ (p = 0 ∧ q = 0)) : ∃ g x y : Int, 0 < g ∧ g = (Int.gcd p q : Int) ∧ p = g * x ∧ q = g * y ∧ Int.gcd x y = 1 := by
  have hg := gcd_pos h
  obtain ⟨x, hx⟩ := Int.gcd_dvd_left (a := p) (b := q)
  obtain ⟨y, hy⟩ := Int.gcd_dvd_right (a := p) (b := q)
  refine ⟨_, x, y, by omega, rfl, hx, hy, ?_⟩
  have e : Int.gcd ((Int.gcd p q : Int) * x) ((Int.gcd p q : Int) * y) = Int.gcd p q := by rw [← hx, ← hy]
  rw [Int.gcd_mul_left, Int.natAbs_natCast] at e
  exact Nat.eq_of_mul_eq_mul_left hg (by rw [e, Nat.mul_one])

theorem plain_all {p q : Int} (h : ¬ (p = 0 ∧ q = 0)) : 0 ≤ pQ p q ∧ (pQ p q = 0 → pP p q = 1) ∧ Int.gcd (pP p q) (pQ p q) = 1 := by
  obtain ⟨g, x, y, hg, e, hx, hy, h1⟩ := parts p q h
  have hp : Int.tdiv p g = x := by rw [hx]; exact Int.mul_tdiv_cancel_left x (by omega)
  have hq : Int.tdiv q g = y := by rw [hy]; exact Int.mul_tdiv_cancel_left y (by omega)
  have py : (0 < y ↔ 0 < q) := by rw [hy]; exact ⟨fun k => Int.mul_pos hg k, fun k => Int.pos_of_mul_pos_left (by rw [Int.mul_comm]; exact k) hg⟩
  have ny : (y < 0 ↔ q < 0) := by
    rw [hy]
    refine ⟨fun k => Int.mul_neg_of_pos_of_neg hg k, fun k => ?_⟩
    by_cases hh : 0 ≤ y
    · have := Int.mul_nonneg (Int.le_of_lt hg) hh; omega
    · omega
  have nx : (x < 0 ↔ p < 0) := by
    rw [hx]
    refine ⟨fun k => Int.mul_neg_of_pos_of_neg hg k, fun k => ?_⟩
    by_cases hh : 0 ≤ x
    · have := Int.mul_nonneg (Int.le_of_lt hg) hh; omega
    · omega
  have one : y = 0 → x.natAbs = 1 := by intro k; rw [k, Int.gcd_zero_right] at h1; exact h1
  by_cases hs : q < 0 ∨ (q = 0 ∧ p < 0)
  · have es : sg p q = -g := by unfold sg; rw [if_pos hs, e]
    have eP : pP p q = -x := by unfold pP; rw [es, Int.tdiv_neg, hp]
    have eQ : pQ p q = -y := by unfold pQ; rw [es, Int.tdiv_neg, hq]
    rw [eP, eQ]
    refine ⟨by omega, fun k => ?_, by rw [Int.neg_gcd, Int.gcd_neg]; exact h1⟩
    have := one (by omega)
    omega
  · have es : sg p q = g := by unfold sg; rw [if_neg hs, e]
    have eP : pP p q = x := by unfold pP; rw [es, hp]
    have eQ : pQ p q = y := by unfold pQ; rw [es, hq]
    rw [eP, eQ]
    refine ⟨by omega, fun k => ?_, h1⟩
    have := one (by omega)
    omega

/-- the plain one is good where it fits -/
theorem good_told {p q : Int} (h : ¬ (p = 0 ∧ q = 0)) : goodT (pP p q) (pQ p q) = fitT (pP p q) (pQ p q) := by
  obtain ⟨h0, h1, h2⟩ := plain_all h
  have : plainB (pP p q) (pQ p q) = true := by
    unfold plainB
    split
    · next k => simpa using h1 k
    · simpa using h2
  unfold goodT
  rw [this, Bool.and_true]

theorem sg_one {p q : Int} (h0 : 0 ≤ q) (h : plainB p q = true) : sg p q = 1 := by
  unfold plainB at h
  unfold sg
  split at h
  · next k =>
    have hp : p = 1 := by simpa using h
    rw [if_neg (by omega), k, hp]
    rfl
  · next k =>
    have hg : Int.gcd p q = 1 := by simpa using h
    rw [if_neg (by omega), hg]
    rfl

/-- of pairs that fit just the good ones are their own plain ones -/
theorem good_iff {p q : Int} (h : ¬ (p = 0 ∧ q = 0)) (hf : fitT p q = true) : (goodT p q = true ↔ tellP p q = p ∧ tellQ p q = q) := by
  have hq : 0 ≤ q := (fit_iff.mp hf).2.2.1
  constructor
  · intro hg
    have hp : plainB p q = true := by unfold goodT at hg; rw [hf, Bool.true_and] at hg; exact hg
    have e := sg_one hq hp
    have eP : pP p q = p := by unfold pP; rw [e, Int.tdiv_one]
    have eQ : pQ p q = q := by unfold pQ; rw [e, Int.tdiv_one]
    unfold tellP tellQ
    rw [eP, eQ, if_pos hf, if_pos hf]
    exact ⟨rfl, rfl⟩
  · rintro ⟨h1, h2⟩
    by_cases hk : fitT (pP p q) (pQ p q) = true
    · have e := good_told h
      unfold tellP at h1
      unfold tellQ at h2
      rw [if_pos hk] at h1 h2
      rw [hk, h1, h2] at e
      exact e
    · unfold tellP at h1
      unfold tellQ at h2
      rw [if_neg hk] at h1 h2
      omega

theorem good_ne {p q : Int} (h : goodT p q = true) : ¬ (p = 0 ∧ q = 0) := by
  rintro ⟨rfl, rfl⟩
  revert h
  decide
theorem good_fit {p q : Int} (h : goodT p q = true) : -1000000 ≤ p ∧ p ≤ 1000000 ∧ 0 ≤ q ∧ q ≤ 1000000 := by
  unfold goodT at h
  exact fit_iff.mp (by cases hf : fitT p q <;> simp_all)

theorem sq_pos {a b : Int} (h : ¬ (a = 0 ∧ b = 0)) : 0 < a * a + b * b := by
  have h1 : 0 ≤ a * a := by rcases Int.le_total 0 a with k | k; exact Int.mul_nonneg k k; exact Int.mul_nonneg_of_nonpos_of_nonpos k k
  have h2 : 0 ≤ b * b := by rcases Int.le_total 0 b with k | k; exact Int.mul_nonneg k k; exact Int.mul_nonneg_of_nonpos_of_nonpos k k
  rcases Int.lt_or_eq_of_le h1 with k | k
  · omega
  · rcases Int.lt_or_eq_of_le h2 with j | j
    · omega
    · exact absurd ⟨by rcases Int.mul_eq_zero.mp k.symm with z | z <;> exact z, by rcases Int.mul_eq_zero.mp j.symm with z | z <;> exact z⟩ h

/-- two turns joined are never both 0 -/
theorem join_ne {a b c d : Int} (h : ¬ (a = 0 ∧ b = 0)) (k : ¬ (c = 0 ∧ d = 0)) : ¬ (a * d + c * b = 0 ∧ b * d - a * c = 0) := by
  rintro ⟨h1, h2⟩
  have h3 := Int.mul_pos (sq_pos h) (sq_pos k)
  have e : (a * a + b * b) * (c * c + d * d) = (a * d + c * b) * (a * d + c * b) + (b * d - a * c) * (b * d - a * c) := by
    simp only [Int.mul_add, Int.mul_sub, Int.mul_comm, Int.mul_left_comm]
    omega
  rw [e, h1, h2] at h3
  omega

theorem mul_in {a b : Int} (ha : -1000000 ≤ a ∧ a ≤ 1000000) (hb : -1000000 ≤ b ∧ b ≤ 1000000) : -1000000000000 ≤ a * b ∧ a * b ≤ 1000000000000 := by
  have h : (a * b).natAbs ≤ 1000000 * 1000000 := by
    rw [Int.natAbs_mul]
    exact Nat.mul_le_mul (by omega) (by omega)
  omega
end Go.Proofs.Ytpnbkmlmbfogdaa
