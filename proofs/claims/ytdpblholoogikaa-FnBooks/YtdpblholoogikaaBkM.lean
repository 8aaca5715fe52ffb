/- Numbers alone: bookings of lanes. -/
import Derived.Test.YtdpblholoogikaaFkFour
import Derived.Test.YtdpblholoogikaaFkBkV
namespace Go.Proofs.Ytdpblholoogikaa
open Go.RowKit
/-- is a booking good by itself (lane, from, to, who) -/
def bkB (a f t u : Int) : Bool := decide ((0 ≤ a ∧ a ≤ 9) ∧ (0 ≤ u ∧ u ≤ 9) ∧ (0 ≤ f ∧ f < t ∧ t ≤ 10000))
theorem bkB_t {a f t u : Int} (h : bkB a f t u = true) : (0 ≤ a ∧ a ≤ 9) ∧ (0 ≤ u ∧ u ≤ 9) ∧ (0 ≤ f ∧ f < t ∧ t ≤ 10000) := of_decide_eq_true h
/-- may one stand behind the other -/
def bhB (l1 t1 l2 f2 : Int) : Bool := decide (l1 < l2 ∨ l1 = l2 ∧ t1 ≤ f2)
theorem bhB_t {l1 t1 l2 f2 : Int} (h : bhB l1 t1 l2 f2 = true) : l1 < l2 ∨ l1 = l2 ∧ t1 ≤ f2 := of_decide_eq_true h
def bkK (F : Nat → Int) (k : Nat) : Bool := bkB (F (k * 4)) (F (k * 4 + 1)) (F (k * 4 + 2)) (F (k * 4 + 3))
/-- the one at k behind the one ahead of it -/
def bhK (F : Nat → Int) (k : Nat) : Bool := bhB (F ((k - 1) * 4)) (F ((k - 1) * 4 + 2)) (F (k * 4)) (F (k * 4 + 1))
def bsK (F : Nat → Int) : Nat → Bool
  | 0 => true
  | k + 1 => bsK F k && (bkK F k && (decide (k = 0) || bhK F k))
def bsB (n : Nat) (F : Nat → Int) : Bool := decide (n ≤ 40) && bsK F n
theorem bsK_no {F : Nat → Int} {n k : Nat} (h : k < n) (e : (bkK F k && (decide (k = 0) || bhK F k)) = false) : bsK F n = false := by
  induction n with
  | zero => omega
  | succ n ih =>
    unfold bsK
    by_cases c : k = n
    · subst c; rw [e]; simp
    · rw [ih (by omega)]; rfl
theorem bsK_t {F : Nat → Int} {n : Nat} (h : bsK F n = true) : ∀ k, k < n → bkK F k = true ∧ (0 < k → bhK F k = true) := by
  intro k hk
  cases e : (bkK F k && (decide (k = 0) || bhK F k)) with
  | false => rw [bsK_no hk e] at h; cases h
  | true =>
    simp at e
    exact ⟨e.1, fun h0 => by rcases e.2 with e | e; omega; exact e⟩
theorem bsK_of {F : Nat → Int} {n : Nat} (h : ∀ k, k < n → bkK F k = true ∧ (0 < k → bhK F k = true)) : bsK F n = true := by
  induction n with
  | zero => rfl
  | succ n ih =>
    unfold bsK
    rw [ih fun k hk => h k (by omega), (h n (by omega)).1]
    by_cases c : n = 0
    · simp [c]
    · rw [(h n (by omega)).2 (by omega)]; simp
theorem bsK_congr {F G : Nat → Int} {n : Nat} (e : ∀ i, i < n * 4 → F i = G i) : bsK F n = bsK G n := by
  induction n with
  | zero => rfl
  | succ n ih =>
    unfold bsK
    rw [ih fun i hi => e i (by omega)]
    have h1 : bkK F n = bkK G n := by unfold bkK; rw [e _ (by omega), e _ (by omega), e _ (by omega), e _ (by omega)]
    have h2 : bhK F n = bhK G n := by unfold bhK; rw [e _ (by omega), e _ (by omega), e _ (by omega), e _ (by omega)]
    rw [h1, h2]
theorem bsB_t {n : Nat} {F : Nat → Int} (h : bsB n F = true) : n ≤ 40 ∧ bsK F n = true := by
  unfold bsB at h; simp at h; exact h
end Go.Proofs.Ytdpblholoogikaa
