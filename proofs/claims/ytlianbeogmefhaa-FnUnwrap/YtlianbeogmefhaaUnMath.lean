/- Counts unwrapped: numbers alone. -/
import Derived.Test.YtlianbeogmefhaaWcBase
namespace Go.Proofs.Ytlianbeogmefhaa

/-- the number nearest to a that wraps to c -/
def near (a c s : Int) : Int := if s < 2 * ((c - a) % s) then a + (c - a) % s - s else a + (c - a) % s
/-- the numbers that UnwrapCounts tells -/
def un (f : Nat → Int) (s : Int) : Nat → Int
  | 0 => f 0
  | k + 1 => near (un f s k) (f (k + 1)) s
/-- the first k counts are counts -/
def okK (f : Nat → Int) (s : Int) : Nat → Bool
  | 0 => true
  | k + 1 => okK f s k && (decide (0 ≤ f k) && decide (f k < s))
def okU (f : Nat → Int) (s : Int) (len : Nat) : Bool := sizeB s && (decide (1 ≤ len) && decide (len ≤ 60)) && okK f s len

theorem okK_false {f : Nat → Int} {s : Int} {k n : Nat} (h : okK f s k = false) (hk : k ≤ n) : okK f s n = false := by
  induction n with
  | zero => have : k = 0 := by omega
            subst this; exact h
  | succ n ih =>
    by_cases e : k = n + 1
    · subst e; exact h
    · simp [okK, ih (by omega)]
theorem okK_at {f : Nat → Int} {s : Int} {k i : Nat} (h : okK f s k = true) (hi : i < k) : 0 ≤ f i ∧ f i < s := by
  induction k with
  | zero => omega
  | succ k ih =>
    simp only [okK, Bool.and_eq_true, decide_eq_true_eq] at h
    by_cases e : i = k
    · subst e; exact h.2
    · exact ih h.1 (by omega)

theorem emod_bd (n : Int) {s : Int} (h : 0 < s) : 0 ≤ n % s ∧ n % s < s := ⟨Int.emod_nonneg n (Int.ne_of_gt h), Int.emod_lt_of_pos n h⟩
theorem near_bd (a c : Int) {s : Int} (h : 0 < s) : a - s ≤ near a c s ∧ near a c s ≤ a + s := by
  have := emod_bd (c - a) h
  unfold near
  split <;> omega
/-- no step is longer than half of the size -/
theorem near_step (a c : Int) {s : Int} (h : 0 < s) : 2 * (near a c s - a) ≤ s ∧ -s < 2 * (near a c s - a) := by
  have := emod_bd (c - a) h
  unfold near
  split <;> omega
theorem near_mod (a c : Int) {s : Int} (h0 : 0 ≤ c) (h1 : c < s) : near a c s % s = c := by
  have e : (a + (c - a) % s) % s = c := by
    rw [Int.add_emod_emod, show a + (c - a) = c by omega, Int.emod_eq_of_lt h0 h1]
  unfold near
  split
  · rw [Int.sub_emod, Int.emod_self, Int.sub_zero, Int.emod_emod_of_dvd _ (Int.dvd_refl _), e]
  · exact e
theorem un_mod {f : Nat → Int} {s : Int} {k i : Nat} (h : okK f s k = true) (hi : i < k) : un f s i % s = f i := by
  have hb := okK_at h hi
  cases i with
  | zero => exact Int.emod_eq_of_lt hb.1 hb.2
  | succ i => exact near_mod _ _ hb.1 hb.2
theorem un_bd {f : Nat → Int} {s : Int} {k : Nat} (h : okK f s k = true) (hs : 0 < s) (hs2 : s ≤ 1000000) (i : Nat) (hi : i < k) : -(1000000 * (i + 1 : Nat)) ≤ un f s i ∧ un f s i ≤ 1000000 * (i + 1 : Nat) := by
  induction i with
  | zero => have := okK_at h hi; simp only [un]; omega
  | succ i ih =>
    have h1 := ih (by omega)
    have h2 := near_bd (un f s i) (f (i + 1)) hs
    simp only [un]
    omega
/-- the step, as the model reckons it -/
theorem un_spec {f : Nat → Int} {s : Int} {k i : Nat} (h : okK f s k = true) (hi : i < k) : (f (i + 1) - un f s i) % s = (f (i + 1) - f i) % s := by
  have hm := un_mod h hi
  have hb := okK_at h hi
  rw [Int.sub_emod, hm, Int.sub_emod (f (i + 1)) (f i), Int.emod_eq_of_lt hb.1 hb.2]
end Go.Proofs.Ytlianbeogmefhaa
