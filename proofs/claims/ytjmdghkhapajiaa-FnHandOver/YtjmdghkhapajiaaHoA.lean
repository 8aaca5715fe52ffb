/- What is handed over has all tasks, each once. -/
import Derived.Test.YtjmdghkhapajiaaHoM
import Derived.Test.YtjmdghkhapajiaaAtM
namespace Go.Proofs.Ytjmdghkhapajiaa
open Go.RowKit
theorem hoK_count (G H : Nat) (hne : H ≠ G) : ∀ k, sumK (hoK G H) k + (if G < k then 1 else 0) = k + (if H < k then 1 else 0) := by
  intro k
  induction k with
  | zero => simp [sumK]
  | succ k ih =>
    show sumK (hoK G H) k + hoK G H k + _ = _
    rw [show hoK G H k = if k = G then 0 else if k = H then 2 else 1 from rfl]
    generalize sumK (hoK G H) k = S at ih ⊢
    by_cases a : k = G
    · subst a
      rw [if_pos rfl]
      rw [if_neg (by omega)] at ih
      rw [if_pos (by omega)]
      by_cases b : H < k
      · rw [if_pos b] at ih; rw [if_pos (by omega)]; omega
      · rw [if_neg b] at ih; rw [if_neg (by omega)]; omega
    · rw [if_neg a]
      by_cases b : k = H
      · subst b
        rw [if_pos rfl]
        rw [if_neg (show ¬ k < k by omega)] at ih
        rw [if_pos (show k < k + 1 by omega)]
        by_cases c : G < k
        · rw [if_pos c] at ih; rw [if_pos (by omega)]; omega
        · rw [if_neg c] at ih; rw [if_neg (by omega)]; omega
      · rw [if_neg b]
        by_cases c : G < k
        · rw [if_pos c] at ih; rw [if_pos (by omega)]
          by_cases d : H < k
          · rw [if_pos d] at ih; rw [if_pos (by omega)]; omega
          · rw [if_neg d] at ih; rw [if_neg (by omega)]; omega
        · rw [if_neg c] at ih; rw [if_neg (by omega)]
          by_cases d : H < k
          · rw [if_pos d] at ih; rw [if_pos (by omega)]; omega
          · rw [if_neg d] at ih; rw [if_neg (by omega)]; omega
/-- each number of a row is what some robot had: the row's own, or the gone one's -/
theorem hoR_of (g : Nat → Int) (G H i j : Nat) : ∃ s, hoR g G H i j = g s ∧ (s = i ∨ (s = G ∧ i = H)) := by
  unfold hoR
  by_cases e : i = H
  · subst e
    rw [if_pos rfl]
    split
    · exact ⟨i, rfl, .inl rfl⟩
    · exact ⟨G, rfl, .inr ⟨rfl, rfl⟩⟩
  · rw [if_neg e]; exact ⟨i, rfl, .inl rfl⟩
theorem hoR_two (g : Nat → Int) (G H : Nat) (hne : g H ≠ g G) : hoR g G H H 0 < hoR g G H H 1 := by
  unfold hoR
  rw [if_pos rfl, if_pos rfl]
  by_cases c : g H ≤ g G
  · simp [c]; omega
  · simp [c]; omega
theorem ho_at {n m : Nat} {K : Nat → Nat} {F : Nat → Nat → Int} {g : Nat → Int} (ga : GA n m K F g) {G H : Nat} (hG : G < n) (hH : H < n) (hne : H ≠ G) : AT n (hoK G H) (hoR g G H) := by
  have hgn : g H ≠ g G := fun e => hne (ga.one H G hH hG e)
  have h2 := hoR_two g G H hgn
  have hk : ∀ {i j : Nat}, j < hoK G H i → i ≠ G ∧ (j = 0 ∨ (j = 1 ∧ i = H)) := fun {i j} hj => by
    unfold hoK at hj
    by_cases a : i = G
    · rw [if_pos a] at hj; omega
    · rw [if_neg a] at hj
      by_cases b : i = H
      · rw [if_pos b] at hj; exact ⟨a, by omega⟩
      · rw [if_neg b] at hj; exact ⟨a, by omega⟩
  refine ⟨fun i j hi _ => ?_, fun i j hi hj => ?_, fun i j a b hi hj ha hb e => ?_, ?_⟩
  · obtain ⟨s, e, hs⟩ := hoR_of g G H i j
    rw [e]
    exact ga.bd s (by omega)
  · obtain ⟨h3, h4⟩ := hk hj
    have hj0 : j = 0 := by omega
    have hiH : i = H := by omega
    subst hj0; subst hiH
    exact h2
  · obtain ⟨s, e1, hs⟩ := hoR_of g G H i j
    obtain ⟨t, e2, ht⟩ := hoR_of g G H a b
    obtain ⟨i1, i2⟩ := hk hj
    obtain ⟨a1, a2⟩ := hk hb
    have est : s = t := ga.one s t (by omega) (by omega) (by rw [← e1, ← e2, e])
    have eia : i = a := by omega
    subst eia
    refine ⟨rfl, ?_⟩
    by_cases c : i = H
    · subst c
      rcases i2 with rfl | ⟨rfl, _⟩
      · rcases a2 with rfl | ⟨rfl, _⟩
        · rfl
        · omega
      · rcases a2 with rfl | ⟨rfl, _⟩
        · omega
        · rfl
    · omega
  · have := hoK_count G H hne n
    rw [if_pos hG, if_pos hH] at this
    omega
end Go.Proofs.Ytjmdghkhapajiaa
