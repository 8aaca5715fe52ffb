/- Whoever is in a ring is back within as many steps as there are any. Numbers alone. -/
import Derived.Test.YtbndhhjgjalecabCwWrM
namespace Go.Proofs.Ytbndhhjgjalecab

theorem inj_le : ∀ (m n : Nat) (x : Nat → Nat), (∀ a, a < n → x a < m) → (∀ a b, a < b → b < n → x a ≠ x b) → n ≤ m
  | 0, n, x, h1, _ => by
    cases n with
    | zero => exact Nat.le_refl _
    | succ k => exact absurd (h1 0 (by omega)) (Nat.not_lt_zero _)
  | m + 1, 0, x, _, _ => Nat.zero_le _
  | m + 1, k + 1, x, h1, h2 => by
    have := inj_le m k (fun a => if x a = m then x k else x a) (fun a ha => by
      show (if x a = m then x k else x a) < m
      have g1 := h1 a (by omega)
      have g2 := h1 k (by omega)
      have g3 := h2 a k ha (by omega)
      split <;> omega) (fun a b hab hb => by
      show (if x a = m then x k else x a) ≠ (if x b = m then x k else x b)
      have g1 := h2 a b hab (by omega)
      have g2 := h2 a k (by omega) (by omega)
      have g3 := h2 b k hb (by omega)
      split <;> split <;> omega)
    omega
/-- where one is behind k waits -/
def itw (f : Nat → Int) (y : Int) : Nat → Int
  | 0 => y
  | k + 1 => f (itw f y k).toNat
theorem itw_shift (f : Nat → Int) (y : Int) (k : Nat) : itw f (f y.toNat) k = itw f y (k + 1) := by
  induction k with
  | zero => rfl
  | succ k ih => show f (itw f (f y.toNat) k).toNat = f (itw f y (k + 1)).toNat; rw [ih]
theorem wgo_iff (f : Nat → Int) (i : Nat) : ∀ (k : Nat) (y : Int), wgo f (i : Int) k y = (i : Int) ↔ ∃ j, j ≤ k ∧ itw f y j = (i : Int) ∧ ∀ l, l < j → 0 ≤ itw f y l ∧ itw f y l ≠ (i : Int)
  | 0, y => by
    constructor
    · intro h; exact ⟨0, Nat.le_refl _, h, fun l hl => absurd hl (Nat.not_lt_zero _)⟩
    · rintro ⟨j, hj, h, _⟩
      obtain rfl : j = 0 := by omega
      exact h
  | k + 1, y => by
    by_cases hc : 0 ≤ y ∧ y ≠ (i : Int)
    · rw [wgo_step hc, wgo_iff f i k]
      constructor
      · rintro ⟨j, hj, h, hl⟩
        refine ⟨j + 1, by omega, by rw [← itw_shift]; exact h, fun l hl2 => ?_⟩
        cases l with
        | zero => exact hc
        | succ l => rw [← itw_shift]; exact hl l (by omega)
      · rintro ⟨j, hj, h, hl⟩
        cases j with
        | zero => exact absurd h hc.2
        | succ j => exact ⟨j, by omega, by rw [itw_shift]; exact h, fun l hl2 => by rw [itw_shift]; exact hl (l + 1) (by omega)⟩
    · rw [wgo_stop hc]
      constructor
      · intro h; exact ⟨0, by omega, h, fun l hl => absurd hl (Nat.not_lt_zero _)⟩
      · rintro ⟨j, hj, h, hl⟩
        cases j with
        | zero => exact h
        | succ j => exact absurd (hl 0 (by omega)) hc
/-- one step less is enough -/
theorem wgo_less {n : Nat} {f : Nat → Int} {i : Nat} (hn : 0 < n) (hf : ∀ k, k < n → -1 ≤ f k ∧ f k < (n : Int)) (hi : i < n) : wgo f (i : Int) n (f i) = (i : Int) ↔ wgo f (i : Int) (n - 1) (f i) = (i : Int) := by
  rw [wgo_iff, wgo_iff]
  constructor
  · rintro ⟨j, hj, h, hl⟩
    by_cases e : j = n
    · subst e
      exfalso
      have hlt : ∀ l, l ≤ j → 0 ≤ itw f (f i) l ∧ itw f (f i) l < (j : Int) := fun l hl2 => by
        have h0 : 0 ≤ itw f (f i) l := by
          by_cases e : l = j
          · subst e; omega
          · exact (hl l (by omega)).1
        refine ⟨h0, ?_⟩
        cases l with
        | zero => exact (hf i hi).2
        | succ l =>
          have hb := hl l (by omega)
          have : ∀ l, l < j → itw f (f i) l < (j : Int) := by
            intro l
            induction l with
            | zero => intro _; exact (hf i hi).2
            | succ l ih =>
              intro h9
              have h8 := (hl l (by omega)).1
              have h7 := ih (by omega)
              exact (hf (itw f (f i) l).toNat (by omega)).2
          have h7 := this l (by omega)
          exact (hf (itw f (f i) l).toNat (by omega)).2
      have key := inj_le j (j + 1) (fun l => (itw f (f i) l).toNat) (fun a ha => by
        show (itw f (f i) a).toNat < j
        have := hlt a (by omega); omega) (fun a b hab hb e => by
        have e1 : itw f (f i) a = itw f (f i) b := by
          have h1 := hlt a (by omega)
          have h2 := hlt b (by omega)
          have e2 : (itw f (f i) a).toNat = (itw f (f i) b).toNat := e
          omega
        have sh : ∀ t, itw f (f i) (a + t) = itw f (f i) (b + t) := by
          intro t
          induction t with
          | zero => exact e1
          | succ t ih => show f (itw f (f i) (a + t)).toNat = f (itw f (f i) (b + t)).toNat; rw [ih]
        have e3 := sh (j - b)
        rw [show b + (j - b) = j by omega, h] at e3
        exact (hl (a + (j - b)) (by omega)).2 e3)
      omega
    · exact ⟨j, by omega, h, hl⟩
  · rintro ⟨j, hj, h, hl⟩
    exact ⟨j, by omega, h, hl⟩
theorem rgB_less {n : Nat} {f : Nat → Int} {i : Nat} (hf : ∀ k, k < n → -1 ≤ f k ∧ f k < (n : Int)) (hi : i < n) : rgB n f i = decide (wgo f (i : Int) (n - 1) (f i) = (i : Int)) := by
  unfold rgB
  exact decide_eq_decide.2 (wgo_less (by omega) hf hi)
end Go.Proofs.Ytbndhhjgjalecab
