/- A ray over counts: numbers alone. -/
import Derived.Test.YtnoaonflphameaaLnSpec
import Derived.Test.YtnoaonflphameaaSzHave
namespace Go.Proofs.Ytnoaonflphameaa
open Go.RowKit

theorem pt_in {ax ay : Int} (hx : 0 ≤ ax) (hy : 0 ≤ ay) (hx2 : ax ≤ 2000) (hy2 : ay ≤ 2000) {k : Nat} (hk : k ≤ steps ax ay) : (0 ≤ (pt ax ay k).1 ∧ (pt ax ay k).1 ≤ ax) ∧ (0 ≤ (pt ax ay k).2.1 ∧ (pt ax ay k).2.1 ≤ ay) := by
  have hn : ((steps ax ay : Nat) : Int) = max ax ay := by unfold steps; omega
  have I := inv_at hx hy hx2 hy2 k (by omega)
  generalize (pt ax ay k).1 = i at *
  generalize (pt ax ay k).2.1 = j at *
  generalize (pt ax ay k).2.2 = e at *
  obtain ⟨a1, a2, a3, a4, a5, a6, a7, a8⟩ := I
  refine ⟨⟨a1, ?_⟩, a3, ?_⟩
  · rcases Int.lt_trichotomy ax ay with h | h | h
    · obtain ⟨c1, c2, c3, c4⟩ := a7 h
      rcases Int.lt_or_le ax i with h1 | h1
      · exfalso
        have m1 := Int.mul_le_mul_of_nonneg_right (show ax + 1 ≤ i by omega) hy
        rw [Int.add_mul] at m1
        have m2 := Int.mul_le_mul_of_nonneg_right (show (k : Int) ≤ ay by omega) hx
        rw [Int.mul_comm ay ax] at m2
        omega
      · exact h1
    · have := a8 h; omega
    · have := a6 h; omega
  · rcases Int.lt_trichotomy ax ay with h | h | h
    · have := a7 h; omega
    · have := a8 h; omega
    · obtain ⟨c1, c2, c3, c4⟩ := a6 h
      rcases Int.lt_or_le ay j with h1 | h1
      · exfalso
        have m1 := Int.mul_le_mul_of_nonneg_right (show ay + 1 ≤ j by omega) hx
        rw [Int.add_mul] at m1
        have m2 := Int.mul_le_mul_of_nonneg_right (show (k : Int) ≤ ax by omega) hy
        rw [Int.mul_comm ax ay] at m2
        omega
      · exact h1
theorem btw {a b s t i : Int} (h : s * t = b - a) (hs : s = 1 ∨ s = -1) (hi : 0 ≤ i ∧ i ≤ t) : (a ≤ a + s * i ∧ a + s * i ≤ b) ∨ (b ≤ a + s * i ∧ a + s * i ≤ a) := by
  rcases hs with rfl | rfl <;> omega
/-- each cell of a line whose ends lie within the sides lies within them -/
theorem ln_have {W H x1 y1 x2 y2 : Int} (hW : W ≤ 16) (hH : H ≤ 16) (h1 : hvB W H x1 y1 = true) (h2 : hvB W H x2 y2 = true) : lnB x1 y1 x2 y2 = true ∧ ∀ k, k ≤ steps (ab (x2 - x1)) (ab (y2 - y1)) → hvB W H (lnX x1 y1 x2 y2 k) (lnY x1 y1 x2 y2 k) = true := by
  have a1 := hvB_t h1
  have a2 := hvB_t h2
  refine ⟨by simp [lnB, inK_mk (n := x1) (by omega), inK_mk (n := y1) (by omega), inK_mk (n := x2) (by omega), inK_mk (n := y2) (by omega)], fun k hk => ?_⟩
  obtain ⟨p1, p2, p3⟩ := ab_sgn (x2 - x1)
  obtain ⟨q1, q2, q3⟩ := ab_sgn (y2 - y1)
  have p4 : ab (x2 - x1) ≤ 2000 := by unfold ab; split <;> omega
  have q4 : ab (y2 - y1) ≤ 2000 := by unfold ab; split <;> omega
  obtain ⟨i1, i2⟩ := pt_in p2 q2 p4 q4 hk
  have b1 := btw p1 p3 i1
  have b2 := btw q1 q3 i2
  have e1 : lnX x1 y1 x2 y2 k = x1 + sgn1 (x2 - x1) * (pt (ab (x2 - x1)) (ab (y2 - y1)) k).1 := rfl
  have e2 : lnY x1 y1 x2 y2 k = y1 + sgn1 (y2 - y1) * (pt (ab (x2 - x1)) (ab (y2 - y1)) k).2.1 := rfl
  rw [← e1] at b1
  rw [← e2] at b2
  exact hvB_mk (by omega)
theorem steps_le {W H x1 y1 x2 y2 : Int} (hW : W ≤ 16) (hH : H ≤ 16) (h1 : hvB W H x1 y1 = true) (h2 : hvB W H x2 y2 = true) : steps (ab (x2 - x1)) (ab (y2 - y1)) ≤ 16 := by
  have a1 := hvB_t h1
  have a2 := hvB_t h2
  have p4 : ab (x2 - x1) ≤ 16 := by unfold ab; split <;> omega
  have q4 : ab (y2 - y1) ≤ 16 := by unfold ab; split <;> omega
  unfold steps
  omega
/-- the number of the line's cell k -/
def rid (W x1 y1 x2 y2 : Int) (k : Nat) : Nat := (lnY x1 y1 x2 y2 k * W + lnX x1 y1 x2 y2 k).toNat
/-- the counts behind the first k cells -/
def am (g : Nat → Int) (id : Nat → Nat) : Nat → Nat → Int
  | 0 => g
  | k + 1 => put (am g id k) (id k) (am g id k (id k) + 1)
theorem am_bd {g : Nat → Int} {id : Nat → Nat} {n : Nat} (hg : ∀ i, i < n → 0 ≤ g i ∧ g i ≤ 1000000) (k : Nat) : ∀ i, i < n → 0 ≤ am g id k i ∧ am g id k i ≤ 1000000 + k := by
  induction k with
  | zero => intro i hi; have := hg i hi; simp only [am]; omega
  | succ k ih =>
    intro i hi
    have h1 := ih i hi
    simp only [am, put]
    split
    · next e => subst e; omega
    · omega
end Go.Proofs.Ytnoaonflphameaa
