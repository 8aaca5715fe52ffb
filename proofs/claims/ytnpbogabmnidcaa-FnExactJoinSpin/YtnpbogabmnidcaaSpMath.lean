/- Products of quaternions: of two that are not 0 one that is not 0; within four times the square of the limit; and a plain one is not 0. -/
import Derived.Test.YtnpbogabmnidcaaSpPlainA
namespace Go.Proofs.Ytnpbogabmnidcaa

def mA (a b c d e f g h : Int) : Int := a * e - b * f - c * g - d * h
def mB (a b c d e f g h : Int) : Int := a * f + b * e + c * h - d * g
def mC (a b c d e f g h : Int) : Int := a * g - b * h + c * e + d * f
def mD (a b c d e f g h : Int) : Int := a * h + b * g - c * f + d * e

theorem squares (a b c d e f g h : Int) : mA a b c d e f g h * mA a b c d e f g h + mB a b c d e f g h * mB a b c d e f g h + mC a b c d e f g h * mC a b c d e f g h + mD a b c d e f g h * mD a b c d e f g h = (a * a + b * b + c * c + d * d) * (e * e + f * f + g * g + h * h) := by
  unfold mA mB mC mD
  grind
theorem sq_nonneg (x : Int) : 0 ≤ x * x := by
  rw [← Int.natAbs_mul_self (a := x)]
  exact Int.natCast_nonneg _
theorem sq_zero {x : Int} (h : x * x = 0) : x = 0 := by
  rcases Int.mul_eq_zero.1 h with h | h <;> exact h
theorem squares_zero {a b c d : Int} (h : a * a + b * b + c * c + d * d = 0) : noughtB a b c d = true := by
  have ha := sq_nonneg a
  have hb := sq_nonneg b
  have hc := sq_nonneg c
  have hd := sq_nonneg d
  have za := sq_zero (x := a) (by omega)
  have zb := sq_zero (x := b) (by omega)
  have zc := sq_zero (x := c) (by omega)
  have zd := sq_zero (x := d) (by omega)
  simp [noughtB, za, zb, zc, zd]
theorem nought_eq {a b c d : Int} (h : noughtB a b c d = true) : a = 0 ∧ b = 0 ∧ c = 0 ∧ d = 0 := by
  simpa [noughtB, and_assoc] using h
theorem nought_mul {a b c d e f g h : Int} (h1 : noughtB a b c d = false) (h2 : noughtB e f g h = false) : noughtB (mA a b c d e f g h) (mB a b c d e f g h) (mC a b c d e f g h) (mD a b c d e f g h) = false := by
  cases hn : noughtB (mA a b c d e f g h) (mB a b c d e f g h) (mC a b c d e f g h) (mD a b c d e f g h)
  · rfl
  · obtain ⟨za, zb, zc, zd⟩ := nought_eq hn
    have := squares a b c d e f g h
    rw [za, zb, zc, zd] at this
    rcases Int.mul_eq_zero.1 this.symm with z | z
    · rw [squares_zero z] at h1
      cases h1
    · rw [squares_zero z] at h2
      cases h2
theorem mul_in {x y : Int} (hx : -1000000 ≤ x ∧ x ≤ 1000000) (hy : -1000000 ≤ y ∧ y ≤ 1000000) : -1000000000000 ≤ x * y ∧ x * y ≤ 1000000000000 := by
  have h : (x * y).natAbs ≤ 1000000 * 1000000 := by
    rw [Int.natAbs_mul]
    exact Nat.mul_le_mul (by omega) (by omega)
  generalize x * y = z at h ⊢
  omega

/-- a plain one is not 0 -/
theorem g4_dvd (a b c d : Int) : g4 a b c d ∣ a ∧ g4 a b c d ∣ b ∧ g4 a b c d ∣ c ∧ g4 a b c d ∣ d := by
  have h1 := Int.gcd_dvd_left (a := (Int.gcd a b : Int)) (b := (Int.gcd c d : Int))
  have h2 := Int.gcd_dvd_right (a := (Int.gcd a b : Int)) (b := (Int.gcd c d : Int))
  unfold g4
  exact ⟨Int.dvd_trans h1 (Int.gcd_dvd_left ..), Int.dvd_trans h1 (Int.gcd_dvd_right ..), Int.dvd_trans h2 (Int.gcd_dvd_left ..), Int.dvd_trans h2 (Int.gcd_dvd_right ..)⟩
theorem div4_dvd (a b c d : Int) : div4 a b c d ∣ a ∧ div4 a b c d ∣ b ∧ div4 a b c d ∣ c ∧ div4 a b c d ∣ d := by
  obtain ⟨h1, h2, h3, h4⟩ := g4_dvd a b c d
  unfold div4
  split
  · exact ⟨Int.neg_dvd.2 h1, Int.neg_dvd.2 h2, Int.neg_dvd.2 h3, Int.neg_dvd.2 h4⟩
  · exact ⟨h1, h2, h3, h4⟩
theorem tdiv_zero {x D : Int} (h : D ∣ x) (hz : Int.tdiv x D = 0) : x = 0 := by
  have := Int.tdiv_mul_cancel h
  rw [hz] at this
  omega
theorem nought_plain {a b c d : Int} (h : noughtB a b c d = false) : noughtB (pl a b c d a) (pl a b c d b) (pl a b c d c) (pl a b c d d) = false := by
  cases hn : noughtB (pl a b c d a) (pl a b c d b) (pl a b c d c) (pl a b c d d)
  · rfl
  · obtain ⟨za, zb, zc, zd⟩ := nought_eq hn
    obtain ⟨h1, h2, h3, h4⟩ := div4_dvd a b c d
    unfold pl at za zb zc zd
    have e1 := tdiv_zero h1 za
    have e2 := tdiv_zero h2 zb
    have e3 := tdiv_zero h3 zc
    have e4 := tdiv_zero h4 zd
    simp [noughtB, e1, e2, e3, e4] at h
end Go.Proofs.Ytnpbogabmnidcaa
