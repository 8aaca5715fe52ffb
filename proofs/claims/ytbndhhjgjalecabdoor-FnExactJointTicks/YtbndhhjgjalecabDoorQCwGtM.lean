/- Which trips are good. Numbers alone. -/
import Derived.Test.YtbndhhjgjalecabDoorQClFrB
namespace Go.Proofs.YtbndhhjgjalecabDoor

/-- is trip number i apart from the first j -/
def apB (g : Nat → Int) (i : Nat) : Nat → Bool
  | 0 => true
  | j + 1 => apB g i j && !(g (j * 2) == g (i * 2) || g (j * 2 + 1) == g (i * 2 + 1))
/-- are the first k trips good ones -/
def trB (n : Nat) (f g : Nat → Int) : Nat → Bool
  | 0 => true
  | k + 1 => trB n f g k && (frB n f (g (k * 2)) && frB n f (g (k * 2 + 1)) && apB g k k)
def gtB (W : Int) (n : Nat) (f : Nat → Int) (m : Nat) (g : Nat → Int) : Bool := celB W n f && decide (m ≤ 5) && trB n f g m
theorem apB_at {g : Nat → Int} {i k : Nat} (h : apB g i k = true) : ∀ j, j < k → g (j * 2) ≠ g (i * 2) ∧ g (j * 2 + 1) ≠ g (i * 2 + 1) := by
  induction k with
  | zero => intro j hj; omega
  | succ k ih =>
    simp only [apB, Bool.and_eq_true, Bool.not_eq_true', Bool.or_eq_false_iff, beq_eq_false_iff_ne] at h
    intro j hj
    by_cases e : j = k
    · subst e; exact h.2
    · exact ih h.1 j (by omega)
theorem apB_mk {g : Nat → Int} {i k : Nat} (h : ∀ j, j < k → g (j * 2) ≠ g (i * 2) ∧ g (j * 2 + 1) ≠ g (i * 2 + 1)) : apB g i k = true := by
  induction k with
  | zero => rfl
  | succ k ih =>
    simp only [apB, Bool.and_eq_true, Bool.not_eq_true', Bool.or_eq_false_iff, beq_eq_false_iff_ne]
    exact ⟨ih fun j hj => h j (by omega), h k (by omega)⟩
theorem trB_at {n : Nat} {f g : Nat → Int} {k : Nat} (h : trB n f g k = true) : ∀ i, i < k → frB n f (g (i * 2)) = true ∧ frB n f (g (i * 2 + 1)) = true ∧ apB g i i = true := by
  induction k with
  | zero => intro i hi; omega
  | succ k ih =>
    simp only [trB, Bool.and_eq_true] at h
    intro i hi
    by_cases e : i = k
    · subst e; exact ⟨h.2.1.1, h.2.1.2, h.2.2⟩
    · exact ih h.1 i (by omega)
theorem trB_mk {n : Nat} {f g : Nat → Int} {k : Nat} (h : ∀ i, i < k → frB n f (g (i * 2)) = true ∧ frB n f (g (i * 2 + 1)) = true ∧ apB g i i = true) : trB n f g k = true := by
  induction k with
  | zero => rfl
  | succ k ih =>
    simp only [trB, Bool.and_eq_true]
    exact ⟨ih fun i hi => h i (by omega), ⟨(h k (by omega)).1, (h k (by omega)).2.1⟩, (h k (by omega)).2.2⟩
theorem gtB_t {W : Int} {n : Nat} {f : Nat → Int} {m : Nat} {g : Nat → Int} (h : gtB W n f m g = true) : celB W n f = true ∧ m ≤ 5 ∧ trB n f g m = true := by
  simpa [gtB, and_assoc] using h
theorem gtB_false {W : Int} {n : Nat} {f : Nat → Int} {m : Nat} {g : Nat → Int} {k : Nat} (hk : k < m) (h : ¬ (frB n f (g (k * 2)) = true ∧ frB n f (g (k * 2 + 1)) = true ∧ apB g k k = true)) : gtB W n f m g = false := by
  cases e : gtB W n f m g with
  | false => rfl
  | true => exact absurd (trB_at (gtB_t e).2.2 k hk) h
theorem apB_false {g : Nat → Int} {i j k : Nat} (hj : j < k) (h : g (j * 2) = g (i * 2) ∨ g (j * 2 + 1) = g (i * 2 + 1)) : ¬ apB g i k = true := fun e => by
  have := apB_at e j hj
  rcases h with h | h
  · exact this.1 h
  · exact this.2 h
end Go.Proofs.YtbndhhjgjalecabDoor
