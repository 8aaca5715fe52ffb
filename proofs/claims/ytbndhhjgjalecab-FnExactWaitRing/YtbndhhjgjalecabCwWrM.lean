/- Who waits in a ring. Numbers alone. -/
import Derived.Test.YtbndhhjgjalecabLsOwn
namespace Go.Proofs.Ytbndhhjgjalecab

/-- whom one comes to by at most k waits, stopping at i, or where nobody is waited for -/
def wgo (f : Nat → Int) (i : Int) : Nat → Int → Int
  | 0, at_ => at_
  | k + 1, at_ => if 0 ≤ at_ ∧ at_ ≠ i then wgo f i k (f at_.toNat) else at_
theorem wgo_step {f : Nat → Int} {i x : Int} {k : Nat} (h : 0 ≤ x ∧ x ≠ i) : wgo f i (k + 1) x = wgo f i k (f x.toNat) := if_pos h
theorem wgo_stop {f : Nat → Int} {i x : Int} {k : Nat} (h : ¬ (0 ≤ x ∧ x ≠ i)) : wgo f i (k + 1) x = x := if_neg h
/-- are the first k numbers within their limits -/
def wkB (n : Nat) (f : Nat → Int) : Nat → Bool
  | 0 => true
  | k + 1 => wkB n f k && (decide (-1 ≤ f k) && decide (f k < (n : Int)))
def rgB (n : Nat) (f : Nat → Int) (i : Nat) : Bool := decide (wgo f (i : Int) n (f i) = (i : Int))
/-- those of the first k that wait in a ring -/
def wrK (n : Nat) (f : Nat → Int) : Nat → List Int
  | 0 => []
  | k + 1 => if rgB n f k then wrK n f k ++ [(k : Int)] else wrK n f k
/-- what WaitRing tells -/
def wrL (n : Nat) (f : Nat → Int) : List Int := if n ≤ 5 ∧ wkB n f n = true then wrK n f n else []
theorem wrK_len (n : Nat) (f : Nat → Int) (k : Nat) : (wrK n f k).length ≤ k := by
  induction k with
  | zero => simp [wrK]
  | succ k ih =>
    unfold wrK
    split
    · simp; omega
    · omega
theorem wrL_len (n : Nat) (f : Nat → Int) : (wrL n f).length ≤ 5 := by
  unfold wrL
  split
  · next h => have := wrK_len n f n; omega
  · simp
theorem wkB_at {n : Nat} {f : Nat → Int} {k : Nat} (h : wkB n f k = true) : ∀ i, i < k → -1 ≤ f i ∧ f i < (n : Int) := by
  induction k with
  | zero => intro i hi; omega
  | succ k ih =>
    simp only [wkB, Bool.and_eq_true, decide_eq_true_eq] at h
    intro i hi
    by_cases e : i = k
    · subst e; exact h.2
    · exact ih h.1 i (by omega)
theorem wkB_mk {n : Nat} {f : Nat → Int} {k : Nat} (h : ∀ i, i < k → -1 ≤ f i ∧ f i < (n : Int)) : wkB n f k = true := by
  induction k with
  | zero => rfl
  | succ k ih =>
    simp only [wkB, Bool.and_eq_true, decide_eq_true_eq]
    exact ⟨ih fun i hi => h i (by omega), h k (by omega)⟩
theorem wrL_no {n : Nat} {f : Nat → Int} {k : Nat} (hk : k < n) (h : ¬ (-1 ≤ f k ∧ f k < (n : Int))) : wrL n f = [] := by
  unfold wrL
  rw [if_neg (fun e => h (wkB_at e.2 k hk))]
/-- the walk from one to the next -/
def itr (f : Nat → Int) : Nat → Int → Int
  | 0, x => x
  | k + 1, x => itr f k (if 0 ≤ x then f x.toNat else x)
end Go.Proofs.Ytbndhhjgjalecab
