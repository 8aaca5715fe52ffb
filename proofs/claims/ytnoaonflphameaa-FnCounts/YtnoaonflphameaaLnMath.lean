/- A line of cells: numbers alone. -/
import Derived.Test.YtnoaonflphameaaLqBase
namespace Go.Proofs.Ytnoaonflphameaa

/-- one step of the line: how many steps in x, in y; the error -/
def stp (ax ay : Int) (s : Int × Int × Int) : Int × Int × Int :=
  (if -ay < 2 * s.2.2 then s.1 + 1 else s.1, if 2 * s.2.2 < ax then s.2.1 + 1 else s.2.1, s.2.2 + (if -ay < 2 * s.2.2 then -ay else 0) + (if 2 * s.2.2 < ax then ax else 0))
def pt (ax ay : Int) : Nat → Int × Int × Int
  | 0 => (0, 0, ax - ay)
  | k + 1 => stp ax ay (pt ax ay k)

structure Inv (ax ay : Int) (k : Nat) (i j e : Int) : Prop where
  i0 : 0 ≤ i
  i1 : i ≤ k
  j0 : 0 ≤ j
  j1 : j ≤ k
  eb : -6000 ≤ e ∧ e ≤ 6000
  gt : ay < ax → i = k ∧ e = j * ax + ax - (k : Int) * ay - ay ∧ -ay < 2 * e ∧ 2 * e < 3 * ax - 2 * ay
  lt : ax < ay → j = k ∧ e = (k : Int) * ax + ax - i * ay - ay ∧ 2 * e < ax ∧ -(2 * e) < 3 * ay - 2 * ax
  eq : ax = ay → i = k ∧ j = k ∧ e = 0
theorem inv_at {ax ay : Int} (hx : 0 ≤ ax) (hy : 0 ≤ ay) (hx2 : ax ≤ 2000) (hy2 : ay ≤ 2000) : ∀ k : Nat, ((k : Int) ≤ ax ∨ (k : Int) ≤ ay) → Inv ax ay k (pt ax ay k).1 (pt ax ay k).2.1 (pt ax ay k).2.2 := by
  intro k
  induction k with
  | zero =>
    intro _
    refine ⟨by simp [pt], by simp [pt], by simp [pt], by simp [pt], by simp [pt]; omega, fun h => ?_, fun h => ?_, fun h => ?_⟩
    · simp [pt]; omega
    · simp [pt]; omega
    · simp [pt]; omega
  | succ k ih =>
    intro hk
    have I := ih (by omega)
    generalize hs : pt ax ay k = s at I
    obtain ⟨i, j, e⟩ := s
    have hp : pt ax ay (k + 1) = stp ax ay (i, j, e) := by rw [pt, hs]
    rw [hp]
    obtain ⟨a1, a2, a3, a4, a5, a6, a7, a8⟩ := I
    simp only at a1 a2 a3 a4 a5 a6 a7 a8
    have e1 : (((k + 1 : Nat) : Int)) * ay = (k : Int) * ay + ay := by rw [Int.natCast_add, Int.add_mul]; simp
    have e2 : (((k + 1 : Nat) : Int)) * ax = (k : Int) * ax + ax := by rw [Int.natCast_add, Int.add_mul]; simp
    have e3 : (j + 1) * ax = j * ax + ax := by rw [Int.add_mul]; simp
    have e4 : (i + 1) * ay = i * ay + ay := by rw [Int.add_mul]; simp
    have ek : ((k + 1 : Nat) : Int) = (k : Int) + 1 := by simp
    unfold stp
    simp only
    by_cases c1 : -ay < 2 * e
    · by_cases c2 : 2 * e < ax
      · rw [if_pos c1, if_pos c2, if_pos c1, if_pos c2]
        refine ⟨by omega, by omega, by omega, by omega, ?_, fun h => ?_, fun h => ?_, fun h => ?_⟩
        · rcases Int.lt_trichotomy ax ay with h | h | h
          · have := a7 h; omega
          · have := a8 h; omega
          · have := a6 h; omega
        · have := a6 h; rw [e1, e3]; omega
        · have := a7 h; rw [e2, e4]; omega
        · have := a8 h; omega
      · rw [if_pos c1, if_neg c2, if_pos c1, if_neg c2]
        refine ⟨by omega, by omega, by omega, by omega, ?_, fun h => ?_, fun h => ?_, fun h => ?_⟩
        · rcases Int.lt_trichotomy ax ay with h | h | h
          · have := a7 h; omega
          · have := a8 h; omega
          · have := a6 h; omega
        · have := a6 h; rw [e1]; omega
        · have := a7 h; omega
        · have := a8 h; omega
    · by_cases c2 : 2 * e < ax
      · rw [if_neg c1, if_pos c2, if_neg c1, if_pos c2]
        refine ⟨by omega, by omega, by omega, by omega, ?_, fun h => ?_, fun h => ?_, fun h => ?_⟩
        · rcases Int.lt_trichotomy ax ay with h | h | h
          · have := a7 h; omega
          · have := a8 h; omega
          · have := a6 h; omega
        · have := a6 h; omega
        · have := a7 h; rw [e2]; omega
        · have := a8 h; omega
      · exfalso
        rcases Int.lt_trichotomy ax ay with h | h | h
        · have := a7 h; omega
        · have := a8 h; omega
        · have := a6 h; omega
/-- how many steps -/
def steps (ax ay : Int) : Nat := (max ax ay).toNat
theorem steps_end {ax ay : Int} (hx : 0 ≤ ax) (hy : 0 ≤ ay) (hx2 : ax ≤ 2000) (hy2 : ay ≤ 2000) : (pt ax ay (steps ax ay)).1 = ax ∧ (pt ax ay (steps ax ay)).2.1 = ay := by
  have I := inv_at hx hy hx2 hy2 (steps ax ay) (by unfold steps; omega)
  have hn : ((steps ax ay : Nat) : Int) = max ax ay := by unfold steps; omega
  generalize steps ax ay = k at *
  obtain ⟨a1, a2, a3, a4, a5, a6, a7, a8⟩ := I
  rcases Int.lt_trichotomy ax ay with h | h | h
  · have hk : (k : Int) = ay := by omega
    obtain ⟨b1, b2, b3, b4⟩ := a7 h
    rw [hk] at b1 b2
    refine ⟨?_, b1⟩
    rcases Int.lt_trichotomy (pt ax ay k).1 ax with h1 | h1 | h1
    · exfalso
      have := Int.mul_le_mul_of_nonneg_right (show (pt ax ay k).1 + 1 ≤ ax by omega) hy
      rw [Int.add_mul] at this
      rw [Int.mul_comm ay ax] at b2
      omega
    · exact h1
    · exfalso
      have := Int.mul_le_mul_of_nonneg_right (show ax + 1 ≤ (pt ax ay k).1 by omega) hy
      rw [Int.add_mul] at this
      rw [Int.mul_comm ay ax] at b2
      omega
  · have hk : (k : Int) = ay := by omega
    obtain ⟨b1, b2, b3⟩ := a8 h
    omega
  · have hk : (k : Int) = ax := by omega
    obtain ⟨b1, b2, b3, b4⟩ := a6 h
    rw [hk] at b1 b2
    refine ⟨b1, ?_⟩
    rcases Int.lt_trichotomy (pt ax ay k).2.1 ay with h1 | h1 | h1
    · exfalso
      have := Int.mul_le_mul_of_nonneg_right (show (pt ax ay k).2.1 + 1 ≤ ay by omega) hx
      rw [Int.add_mul] at this
      rw [Int.mul_comm ax ay] at b2
      omega
    · exact h1
    · exfalso
      have := Int.mul_le_mul_of_nonneg_right (show ay + 1 ≤ (pt ax ay k).2.1 by omega) hx
      rw [Int.add_mul] at this
      rw [Int.mul_comm ax ay] at b2
      omega
theorem steps_not {ax ay : Int} {k : Nat} (hx : 0 ≤ ax) (hy : 0 ≤ ay) (hx2 : ax ≤ 2000) (hy2 : ay ≤ 2000) (hk : k < steps ax ay) : ¬ ((pt ax ay k).1 = ax ∧ (pt ax ay k).2.1 = ay) := by
  have hn : ((steps ax ay : Nat) : Int) = max ax ay := by unfold steps; omega
  have I := inv_at hx hy hx2 hy2 k (by omega)
  rintro ⟨h1, h2⟩
  obtain ⟨a1, a2, a3, a4, a5, a6, a7, a8⟩ := I
  omega
end Go.Proofs.Ytnoaonflphameaa
