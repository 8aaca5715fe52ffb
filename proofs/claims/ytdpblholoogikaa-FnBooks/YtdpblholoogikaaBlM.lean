/- Where a booking goes, and what there is then: numbers alone. -/
import Derived.Test.YtdpblholoogikaaBkM
namespace Go.Proofs.Ytdpblholoogikaa
/-- is booking k ahead of lane a, from f -/
def ltK (F : Nat → Int) (a f : Int) (k : Nat) : Bool := decide (F (k * 4) < a ∨ F (k * 4) = a ∧ F (k * 4 + 1) < f)
/-- the first one that is not -/
def plB (F : Nat → Int) (a f : Int) : Nat → Nat
  | 0 => 0
  | n + 1 => if plB F a f n = n then (if ltK F a f n = true then n + 1 else n) else plB F a f n
theorem plB_le (F : Nat → Int) (a f : Int) : ∀ n, plB F a f n ≤ n
  | 0 => Nat.le_refl _
  | n + 1 => by
    have := plB_le F a f n
    unfold plB
    split
    · split <;> omega
    · omega
theorem plB_lt (F : Nat → Int) (a f : Int) : ∀ n i, i < plB F a f n → ltK F a f i = true
  | 0, i, h => absurd h (Nat.not_lt_zero _)
  | n + 1, i, h => by
    have ih := plB_lt F a f n i
    unfold plB at h
    split at h
    · rename_i e
      split at h
      · rename_i e2
        by_cases c : i = n
        · subst c; exact e2
        · exact ih (by omega)
      · exact ih (by omega)
    · exact ih h
theorem plB_at (F : Nat → Int) (a f : Int) : ∀ n, plB F a f n < n → ltK F a f (plB F a f n) = false
  | 0, h => absurd h (Nat.not_lt_zero _)
  | n + 1, h => by
    have ih := plB_at F a f n
    have hle := plB_le F a f n
    unfold plB at h ⊢
    split
    · rename_i e
      split
      · rename_i e2
        rw [if_pos e, if_pos e2] at h; omega
      · rename_i e2; simpa using e2
    · rename_i e; exact ih (by omega)
theorem plB_uniq {F : Nat → Int} {a f : Int} {n k : Nat} (hk : k ≤ n) (h1 : ∀ i, i < k → ltK F a f i = true) (h2 : k < n → ltK F a f k = false) : k = plB F a f n := by
  have hle := plB_le F a f n
  rcases Nat.lt_trichotomy k (plB F a f n) with c | c | c
  · have := plB_lt F a f n k c
    rw [h2 (by omega)] at this; cases this
  · exact c
  · have := plB_at F a f n (by omega)
    rw [h1 _ c] at this; cases this
/-- good bookings stand in their order -/
theorem ltK_down {F : Nat → Int} {n : Nat} (h : bsK F n = true) (a f : Int) {i : Nat} (hi : i + 1 < n) (e : ltK F a f (i + 1) = true) : ltK F a f i = true := by
  have h1 := bhB_t ((bsK_t h (i + 1) hi).2 (by omega))
  have h2 := bkB_t (bsK_t h i (by omega)).1
  have e := of_decide_eq_true e
  rw [Nat.add_sub_cancel] at h1
  refine decide_eq_true ?_
  omega
theorem ltK_all {F : Nat → Int} {n : Nat} (h : bsK F n = true) (a f : Int) {k : Nat} (hk : k < n) (e : ltK F a f k = true) : ∀ i, i ≤ k → ltK F a f i = true := by
  have : ∀ d i, i + d = k → ltK F a f i = true := by
    intro d
    induction d with
    | zero => intro i hi; have : i = k := by omega
              subst this; exact e
    | succ d ih => intro i hi; exact ltK_down h a f (by omega) (ih (i + 1) (by omega))
  intro i hi
  exact this (k - i) i (by omega)
/-- one more, at its place -/
def insF (F : Nat → Int) (k : Nat) (a f t u : Int) (i : Nat) : Int := if i < k * 4 then F i else if i = k * 4 then a else if i = k * 4 + 1 then f else if i = k * 4 + 2 then t else if i = k * 4 + 3 then u else F (i - 4)
theorem insF_lo (F : Nat → Int) (k : Nat) (a f t u : Int) {i : Nat} (h : i < k * 4) : insF F k a f t u i = F i := if_pos h
theorem insF_hi (F : Nat → Int) (k : Nat) (a f t u : Int) (i : Nat) (h : k * 4 ≤ i) : insF F k a f t u (i + 4) = F i := by
  unfold insF
  rw [if_neg (by omega), if_neg (by omega), if_neg (by omega), if_neg (by omega), if_neg (by omega), Nat.add_sub_cancel]
theorem insF_at (F : Nat → Int) (k : Nat) (a f t u : Int) : bkK (insF F k a f t u) k = bkB a f t u := by
  unfold bkK insF
  rw [if_neg (by omega), if_pos rfl, if_neg (by omega), if_neg (by omega), if_pos rfl, if_neg (by omega), if_neg (by omega), if_neg (by omega), if_pos rfl, if_neg (by omega), if_neg (by omega), if_neg (by omega), if_neg (by omega), if_pos rfl]
/-- a booking that is none makes the whole none -/
theorem ins_no {F : Nat → Int} {n k : Nat} {a f t u : Int} (hk : k ≤ n) (h : bkB a f t u = false) : bsB (n + 1) (insF F k a f t u) = false := by
  cases e : bsB (n + 1) (insF F k a f t u) with
  | false => rfl
  | true =>
    have := (bsK_t (bsB_t e).2 k (by omega)).1
    rw [insF_at, h] at this; cases this
end Go.Proofs.Ytdpblholoogikaa
