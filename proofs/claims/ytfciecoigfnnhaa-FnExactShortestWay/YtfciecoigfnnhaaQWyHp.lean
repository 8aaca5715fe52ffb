/- A heap of openings: what its order is, and how it comes back behind a put and a take. -/
import Derived.Test.YtfciecoigfnnhaaQWyKey
namespace Go.Proofs.Ytfciecoigfnnhaa
open Go.RowKit

/-- an opening: a place and the toll of a way to it -/
structure Og where
  p : Int
  a : Int
  b : Int
def ko (x : Og) : Int := ky x.a x.b
/-- a toll that is not great -/
def BdO (x : Og) : Prop := 0 ≤ x.a ∧ x.a ≤ 300 ∧ 0 ≤ x.b ∧ x.b ≤ 300
def ahB (x y : Og) : Bool := decide (cmpV (x.a - y.a) (x.b - y.b) < 0)
theorem ah_key {x y : Og} (hx : BdO x) (hy : BdO y) : ahB x y = decide (ko x < ko y) := by
  obtain ⟨x1, x2, x3, x4⟩ := hx
  obtain ⟨y1, y2, y3, y4⟩ := hy
  unfold ahB
  rw [cmp_key (by omega) (by omega)]
  have e : (sgI (ky (x.a - y.a) (x.b - y.b)) < 0) = (ko x < ko y) := propext (by rw [sg_lt]; unfold ko ky; omega)
  simp only [e]
def swO (E : Nat → Og) (i j : Nat) : Nat → Og := fun k => if k = i then E j else if k = j then E i else E k
def ptO (E : Nat → Og) (i : Nat) (x : Og) : Nat → Og := fun k => if k = i then x else E k
theorem swO_i (E : Nat → Og) (i j : Nat) : swO E i j i = E j := by simp [swO]
theorem swO_j (E : Nat → Og) (i j : Nat) : swO E i j j = E i := by
  unfold swO
  by_cases e : j = i
  · subst e; simp
  · simp [e]
theorem swO_o (E : Nat → Og) {i j k : Nat} (h1 : k ≠ i) (h2 : k ≠ j) : swO E i j k = E k := by simp [swO, h1, h2]
theorem ptO_i (E : Nat → Og) (i : Nat) (x : Og) : ptO E i x i = x := by simp [ptO]
theorem ptO_o (E : Nat → Og) {i k : Nat} (x : Og) (h : k ≠ i) : ptO E i x k = E k := by simp [ptO, h]
/-- is it among the first m -/
def MemO (m : Nat) (E : Nat → Og) (x : Og) : Prop := ∃ i, i < m ∧ E i = x
theorem mem_sw {m i j : Nat} {E : Nat → Og} (hi : i < m) (hj : j < m) (x : Og) : MemO m (swO E i j) x ↔ MemO m E x := by
  constructor
  · rintro ⟨k, hk, e⟩
    by_cases e1 : k = i
    · subst e1; rw [swO_i] at e; exact ⟨j, hj, e⟩
    · by_cases e2 : k = j
      · subst e2; rw [swO_j] at e; exact ⟨i, hi, e⟩
      · rw [swO_o E e1 e2] at e; exact ⟨k, hk, e⟩
  · rintro ⟨k, hk, e⟩
    by_cases e1 : k = i
    · subst e1; exact ⟨j, hj, by rw [swO_j]; exact e⟩
    · by_cases e2 : k = j
      · subst e2; exact ⟨i, hi, by rw [swO_i]; exact e⟩
      · exact ⟨k, hk, by rw [swO_o E e1 e2]; exact e⟩
/-- are all tolls not great -/
def AllO (m : Nat) (E : Nat → Og) : Prop := ∀ i, i < m → BdO (E i)
theorem all_sw {m i j : Nat} {E : Nat → Og} (h : AllO m E) (hi : i < m) (hj : j < m) : AllO m (swO E i j) := by
  intro k hk
  by_cases e1 : k = i
  · subst e1; rw [swO_i]; exact h j hj
  · by_cases e2 : k = j
    · subst e2; rw [swO_j]; exact h i hi
    · rw [swO_o E e1 e2]; exact h k hk
/-- the heap's order -/
def HpOk (m : Nat) (E : Nat → Og) : Prop := ∀ j, 0 < j → j < m → ko (E ((j - 1) / 2)) ≤ ko (E j)
theorem HpOk.min {m : Nat} {E : Nat → Og} (h : HpOk m E) : ∀ i, i < m → ko (E 0) ≤ ko (E i) := by
  intro i
  induction i using Nat.strongRecOn with
  | ind i ih =>
    intro hi
    by_cases e : i = 0
    · subst e; exact Int.le_refl _
    · have h1 := h i (by omega) hi
      have h2 := ih ((i - 1) / 2) (by omega) (by omega)
      omega
/-- while one goes up -/
structure UpI (m : Nat) (E : Nat → Og) (i : Nat) : Prop where
  lt : i < m
  h : ∀ j, 0 < j → j < m → j ≠ i → ko (E ((j - 1) / 2)) ≤ ko (E j)
  g : ∀ j, 0 < j → j < m → (j - 1) / 2 = i → 0 < i → ko (E ((i - 1) / 2)) ≤ ko (E j)
theorem UpI.start {m : Nat} {E : Nat → Og} (h : HpOk m E) (x : Og) : UpI (m + 1) (ptO E m x) m := by
  refine ⟨by omega, fun j h0 h1 h2 => ?_, fun j h0 h1 h2 h3 => by omega⟩
  rw [ptO_o E x (by omega), ptO_o E x (by omega)]
  exact h j h0 (by omega)
theorem UpI.sw {m : Nat} {E : Nat → Og} {i : Nat} (h : UpI m E i) (hi : 0 < i) (hk : ko (E i) < ko (E ((i - 1) / 2))) : UpI m (swO E i ((i - 1) / 2)) ((i - 1) / 2) := by
  have hl := h.lt
  have hp : (i - 1) / 2 < i := by omega
  refine ⟨by omega, fun j h0 h1 h2 => ?_, fun j h0 h1 h2 h3 => ?_⟩
  · by_cases e1 : j = i
    · subst e1
      rw [swO_i, swO_j]
      omega
    · rw [swO_o E e1 h2]
      by_cases e2 : (j - 1) / 2 = i
      · rw [e2, swO_i]
        exact h.g j h0 h1 e2 hi
      · by_cases e3 : (j - 1) / 2 = (i - 1) / 2
        · rw [e3, swO_j]
          have := h.h j h0 h1 e1
          rw [e3] at this
          omega
        · rw [swO_o E e2 e3]
          exact h.h j h0 h1 e1
  · have q : (((i - 1) / 2) - 1) / 2 ≠ i ∧ (((i - 1) / 2) - 1) / 2 ≠ (i - 1) / 2 := by omega
    rw [swO_o E q.1 q.2]
    have q2 := h.h ((i - 1) / 2) h3 (by omega) (by omega)
    by_cases e1 : j = i
    · subst e1
      rw [swO_i]
      exact q2
    · have q3 := h.h j h0 h1 e1
      rw [h2] at q3
      rw [swO_o E e1 (by omega)]
      omega
theorem UpI.done {m : Nat} {E : Nat → Og} {i : Nat} (h : UpI m E i) (hk : i = 0 ∨ ¬ ko (E i) < ko (E ((i - 1) / 2))) : HpOk m E := by
  intro j h0 h1
  by_cases e : j = i
  · subst e
    rcases hk with q | q
    · omega
    · omega
  · exact h.h j h0 h1 e
/-- while one goes down -/
structure DnI (m : Nat) (E : Nat → Og) (i : Nat) : Prop where
  h : ∀ j, 0 < j → j < m → (j - 1) / 2 ≠ i → ko (E ((j - 1) / 2)) ≤ ko (E j)
  g : ∀ j, 0 < j → j < m → (j - 1) / 2 = i → 0 < i → ko (E ((i - 1) / 2)) ≤ ko (E j)
theorem DnI.start {m : Nat} {E : Nat → Og} (h : HpOk m E) (x : Og) : DnI (m - 1) (ptO E 0 x) 0 := by
  refine ⟨fun j h0 h1 h2 => ?_, fun j h0 h1 h2 h3 => by omega⟩
  rw [ptO_o E x (by omega), ptO_o E x (by omega)]
  exact h j h0 (by omega)
/-- the one of the two below that comes first -/
def fcO (m : Nat) (E : Nat → Og) (i : Nat) : Nat := if 2 * i + 1 + 1 < m ∧ ko (E (2 * i + 1 + 1)) < ko (E (2 * i + 1)) then 2 * i + 1 + 1 else 2 * i + 1
theorem fcO_le {m : Nat} {E : Nat → Og} {i : Nat} (_hc : fcO m E i < m) {j : Nat} (h0 : 0 < j) (h1 : j < m) (h2 : (j - 1) / 2 = i) : ko (E (fcO m E i)) ≤ ko (E j) := by
  have hj : j = 2 * i + 1 ∨ j = 2 * i + 1 + 1 := by omega
  unfold fcO
  split
  · next e =>
    rcases hj with rfl | rfl
    · omega
    · exact Int.le_refl _
  · next e =>
    rcases hj with rfl | rfl
    · exact Int.le_refl _
    · omega
theorem fcO_par (m : Nat) (E : Nat → Og) (i : Nat) : (fcO m E i - 1) / 2 = i ∧ i < fcO m E i := by
  unfold fcO
  split <;> omega
theorem DnI.sw {m : Nat} {E : Nat → Og} {i : Nat} (h : DnI m E i) (hc : fcO m E i < m) (hk : ko (E (fcO m E i)) < ko (E i)) : DnI m (swO E (fcO m E i) i) (fcO m E i) := by
  have hmin := fun {j} => fcO_le (E := E) (i := i) hc (j := j)
  obtain ⟨hp, hgt⟩ := fcO_par m E i
  generalize fcO m E i = c at *
  refine ⟨fun j h0 h1 h2 => ?_, fun j h0 h1 h2 h3 => ?_⟩
  · by_cases e1 : j = c
    · subst e1
      rw [hp, swO_j, swO_i]
      omega
    · by_cases e2 : j = i
      · subst e2
        rw [swO_j, swO_o E h2 (by omega)]
        exact h.g c (by omega) hc hp (by omega)
      · rw [swO_o E e1 e2]
        by_cases e3 : (j - 1) / 2 = i
        · rw [e3, swO_j]
          exact hmin h0 h1 e3
        · rw [swO_o E h2 e3]
          exact h.h j h0 h1 e3
  · rw [hp, swO_j]
    have e1 : j ≠ c := by omega
    have e2 : j ≠ i := by omega
    rw [swO_o E e1 e2]
    have := h.h j h0 h1 (by omega)
    rw [h2] at this
    exact this
theorem DnI.done {m : Nat} {E : Nat → Og} {i : Nat} (h : DnI m E i) (hk : m ≤ i ∨ m ≤ fcO m E i ∨ ¬ ko (E (fcO m E i)) < ko (E i)) : HpOk m E := by
  intro j h0 h1
  by_cases e : (j - 1) / 2 = i
  · have hj : j = 2 * i + 1 ∨ j = 2 * i + 1 + 1 := by omega
    by_cases hc : fcO m E i < m
    · have := fcO_le (E := E) hc h0 h1 e
      rw [e]
      rcases hk with q | q | q <;> omega
    · exfalso
      apply hc
      unfold fcO
      split <;> omega
  · exact h.h j h0 h1 e
end Go.Proofs.Ytfciecoigfnnhaa
