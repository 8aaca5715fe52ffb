/- What is left of a way that is pulled straight: its mathematics. -/
import Derived.Test.YtfciecoigfnnhaaQSzHv
import Derived.Laws.OwnMore
namespace Go.Proofs.Ytfciecoigfnnhaa
open Go.RowKit

theorem legK_not {W : Int} {n : Nat} {f g : Nat → Int} {k i : Nat} (hi : i < k) (h : clrB W n f (g i) (g (i + 1)) = false) : legK W n f g k = false := by
  induction k with
  | zero => omega
  | succ k ih =>
    unfold legK
    by_cases e : i = k
    · subst e; simp [h]
    · simp [ih (by omega)]
theorem legK_at {W : Int} {n : Nat} {f g : Nat → Int} {k i : Nat} (h : legK W n f g k = true) (hi : i < k) : clrB W n f (g i) (g (i + 1)) = true := by
  cases e : clrB W n f (g i) (g (i + 1)) with
  | true => rfl
  | false => rw [legK_not hi e] at h; cases h
theorem lastC_le (W : Int) (n : Nat) (f g : Nat → Int) (p k : Nat) : lastC W n f g p k ≤ k := by
  induction k with
  | zero => simp [lastC]
  | succ k ih => unfold lastC; split <;> omega
/-- the place behind is clear: the last clear one lies behind -/
theorem lastC_gt {W : Int} {n : Nat} {f g : Nat → Int} {p k : Nat} (h : clrB W n f (g p) (g (p + 1)) = true) (hk : p < k) : p < lastC W n f g p k := by
  induction k with
  | zero => omega
  | succ k ih =>
    unfold lastC
    by_cases e : p = k
    · subst e; rw [if_pos h]; omega
    · split
      · omega
      · exact ih (by omega)
/-- what is left of the list, from a place with any purse that is great enough -/
theorem pullK_more (W : Int) (n : Nat) (f g : Nat → Int) (m : Nat) (hl : legK W n f g (m - 1) = true) (t s p : Nat) (ht : m - 1 - p ≤ t) (hs : t ≤ s) : pullK W n f g m s p = pullK W n f g m t p := by
  induction t generalizing s p with
  | zero =>
    have : ¬ p < m - 1 := by omega
    cases s with
    | zero => rfl
    | succ s => simp [pullK, this]
  | succ t ih =>
    cases s with
    | zero => omega
    | succ s =>
      unfold pullK
      by_cases h : p < m - 1
      · have h1 := lastC_gt (k := m - 1) (legK_at hl h) h
        rw [if_pos h, if_pos h, ih s _ (by omega) (by omega)]
      · rw [if_neg h, if_neg h]
/-- what has been taken when the place p is reached -/
def gotL (W : Int) (n : Nat) (f g : Nat → Int) (m : Nat) (l : List Int) (p : Nat) : Prop := l ++ pullK W n f g m (m - 1) p = g 0 :: pullK W n f g m (m - 1) 0
theorem got_step {W : Int} {n : Nat} {f g : Nat → Int} {m : Nat} {l : List Int} {p : Nat} (hl : legK W n f g (m - 1) = true) (h : gotL W n f g m l p) (hp : p < m - 1) : gotL W n f g m (l ++ [g (lastC W n f g p (m - 1))]) (lastC W n f g p (m - 1)) := by
  unfold gotL at *
  rw [← h, List.append_assoc]
  congr 1
  obtain ⟨t, ht⟩ : ∃ t, m - 1 = t + 1 := ⟨m - 2, by omega⟩
  have h1 := lastC_gt (k := m - 1) (legK_at hl hp) hp
  have e := pullK_more W n f g m hl t (m - 1) (lastC W n f g p (m - 1)) (by omega) (by omega)
  rw [e]
  conv => rhs; rw [ht]; unfold pullK; rw [if_pos hp]
  rfl
theorem got_end {W : Int} {n : Nat} {f g : Nat → Int} {m : Nat} {l : List Int} {p : Nat} (h : gotL W n f g m l p) (hp : ¬ p < m - 1) : l = g 0 :: pullK W n f g m (m - 1) 0 := by
  unfold gotL at h
  have : ∀ t, pullK W n f g m t p = [] := fun t => by cases t <;> simp [pullK, hp]
  rw [this, List.append_nil] at h
  exact h
theorem own_one (w : World) (base : Nat) (x : Int) (h : base ≤ w.heap.size) : Own (w.alloc (.cells #[.int .i64 x] 3)) base (.slice (some ⟨w.heap.size, 0, none⟩) 1 1) [x].length (gl [x]) :=
  World.ownsRow_lit w #[.int .i64 x] 1 h (by unfold maxLen; omega) rfl
/-- the last clear place, sought from above -/
theorem lastC_down {W : Int} {n : Nat} {f g : Nat → Int} {p k j : Nat} (hj : j ≤ k) (h : ∀ i, j < i → i ≤ k → clrB W n f (g p) (g i) = false) : lastC W n f g p k = lastC W n f g p j := by
  induction k with
  | zero => have : j = 0 := by omega
            subst this; rfl
  | succ k ih =>
    by_cases e : j = k + 1
    · subst e; rfl
    · have h1 : lastC W n f g p (k + 1) = lastC W n f g p k := by
        rw [lastC, h (k + 1) (by omega) (by omega)]; rfl
      rw [h1]
      exact ih (by omega) (fun i h2 h3 => h i h2 (by omega))
theorem lastC_hit {W : Int} {n : Nat} {f g : Nat → Int} {p j : Nat} (hj : 1 ≤ j) (h : clrB W n f (g p) (g j) = true) : lastC W n f g p j = j := by
  cases j with
  | zero => omega
  | succ j => rw [lastC, if_pos h]

end Go.Proofs.Ytfciecoigfnnhaa
