/- Numbers alone: what is left is good, and is found again entry by entry. -/
import Derived.Test.YtdpblholoogikaaBkFrM
import Derived.Test.YtdpblholoogikaaBkMx
namespace Go.Proofs.Ytdpblholoogikaa
theorem gl_app {l x : List Int} {i : Nat} (h : i < l.length) : (l ++ x).getD i 0 = l.getD i 0 := by simp [List.getD, List.getElem?_append_left h]
theorem gl_new {l x : List Int} {m : Nat} (h : l.length = m * 4) (j : Nat) : (l ++ x).getD (m * 4 + j) 0 = x.getD j 0 := by
  simp [List.getD, List.getElem?_append_right (show l.length ≤ m * 4 + j by omega), h]
/-- until when, behind what is given back -/
def frT (who at_ t u : Int) : Int := if u = who ∧ at_ < t then at_ else t
theorem frS_no {who at_ a f t u : Int} (h : u = who ∧ at_ < t ∧ at_ ≤ f) : frS who at_ a f t u = [] := by
  unfold frS; rw [if_pos ⟨h.1, h.2.1⟩, if_pos h.2.2]
theorem frS_in {who at_ a f t u : Int} (h : ¬ (u = who ∧ at_ < t ∧ at_ ≤ f)) : frS who at_ a f t u = [a, f, frT who at_ t u, u] := by
  unfold frS frT
  split
  · rename_i c
    rw [if_neg (fun d => h ⟨c.1, c.2, d⟩)]
  · rfl
/-- what is left below i: m bookings, good ones, none behind the one at i - 1 -/
def FrG (F : Nat → Int) (who at_ : Int) (i m : Nat) : Prop := (frL F who at_ i).length = m * 4 ∧ m ≤ i ∧ bsK (fun p => (frL F who at_ i).getD p 0) m = true ∧ (0 < m → 0 < i ∧ ((frL F who at_ i).getD ((m - 1) * 4) 0 < F ((i - 1) * 4) ∨ (frL F who at_ i).getD ((m - 1) * 4) 0 = F ((i - 1) * 4) ∧ (frL F who at_ i).getD ((m - 1) * 4 + 2) 0 ≤ F ((i - 1) * 4 + 2)))
theorem fr_good {F : Nat → Int} {n : Nat} (h : bsK F n = true) (who at_ : Int) : ∀ i, i ≤ n → ∃ m, FrG F who at_ i m
  | 0, _ => ⟨0, rfl, Nat.le_refl _, rfl, fun h => absurd h (Nat.lt_irrefl _)⟩
  | i + 1, hi => by
    obtain ⟨m, h1, h2, h3, h4⟩ := fr_good h who at_ i (by omega)
    have hb := bkB_t (bsK_t h i (by omega)).1
    have hh : 0 < i → F ((i - 1) * 4) < F (i * 4) ∨ F ((i - 1) * 4) = F (i * 4) ∧ F ((i - 1) * 4 + 2) ≤ F (i * 4 + 1) := fun h0 => bhB_t ((bsK_t h i (by omega)).2 h0)
    have hs : frL F who at_ (i + 1) = frL F who at_ i ++ frS who at_ (F (i * 4)) (F (i * 4 + 1)) (F (i * 4 + 2)) (F (i * 4 + 3)) := rfl
    unfold FrG
    rw [hs]
    generalize frL F who at_ i = l at *
    by_cases c : F (i * 4 + 3) = who ∧ at_ < F (i * 4 + 2) ∧ at_ ≤ F (i * 4 + 1)
    · rw [frS_no c, List.append_nil]
      refine ⟨m, h1, by omega, h3, fun h0 => ⟨by omega, ?_⟩⟩
      have h4 := h4 h0
      have hh := hh h4.1
      rw [Nat.add_sub_cancel]
      omega
    · rw [frS_in c]
      have ht : F (i * 4 + 1) < frT who at_ (F (i * 4 + 2)) (F (i * 4 + 3)) ∧ frT who at_ (F (i * 4 + 2)) (F (i * 4 + 3)) ≤ F (i * 4 + 2) := by
        unfold frT
        split <;> omega
      generalize frT who at_ (F (i * 4 + 2)) (F (i * 4 + 3)) = T at *
      have g0 := gl_new (x := [F (i * 4), F (i * 4 + 1), T, F (i * 4 + 3)]) h1 0
      have g1 := gl_new (x := [F (i * 4), F (i * 4 + 1), T, F (i * 4 + 3)]) h1 1
      have g2 := gl_new (x := [F (i * 4), F (i * 4 + 1), T, F (i * 4 + 3)]) h1 2
      have g3 := gl_new (x := [F (i * 4), F (i * 4 + 1), T, F (i * 4 + 3)]) h1 3
      simp only [Nat.add_zero] at g0
      refine ⟨m + 1, by rw [List.length_append, h1]; simp; omega, by omega, ?_, fun _ => ⟨by omega, ?_⟩⟩
      · rw [bsK, bsK_congr (G := fun p => l.getD p 0) (fun q hq => gl_app (by omega)), h3]
        have e1 : bkK (fun p => (l ++ [F (i * 4), F (i * 4 + 1), T, F (i * 4 + 3)]).getD p 0) m = true := by
          unfold bkK
          simp only []
          rw [g0, g1, g2, g3]
          refine decide_eq_true ?_
          simp
          omega
        rw [e1]
        by_cases hm : m = 0
        · simp [hm]
        · have e2 : bhK (fun p => (l ++ [F (i * 4), F (i * 4 + 1), T, F (i * 4 + 3)]).getD p 0) m = true := by
            unfold bhK
            simp only []
            rw [g0, g1, gl_app (show (m - 1) * 4 < l.length by omega), gl_app (show (m - 1) * 4 + 2 < l.length by omega)]
            have h4 := h4 (by omega)
            have hh := hh h4.1
            refine decide_eq_true ?_
            simp
            simp at h4
            omega
          rw [e2]; simp
      · rw [Nat.add_sub_cancel, Nat.add_sub_cancel, g0, g2]
        simp
        omega
/-- what is left of all good bookings is good -/
theorem fr_all {F : Nat → Int} {n : Nat} (h : bsB n F = true) (who at_ : Int) : ∃ m, (frL F who at_ n).length = m * 4 ∧ bsB m (fun p => (frL F who at_ n).getD p 0) = true := by
  obtain ⟨h40, hK⟩ := bsB_t h
  obtain ⟨m, h1, h2, h3, _⟩ := fr_good hK who at_ n (Nat.le_refl _)
  exact ⟨m, h1, by unfold bsB; rw [decide_eq_true (show m ≤ 40 by omega), h3]; rfl⟩
/-- a longer one begins as the shorter one -/
theorem fr_pre (F : Nat → Int) (who at_ : Int) (i : Nat) : ∀ d p, p < (frL F who at_ i).length → p < (frL F who at_ (i + d)).length ∧ (frL F who at_ (i + d)).getD p 0 = (frL F who at_ i).getD p 0
  | 0, p, hp => ⟨hp, rfl⟩
  | d + 1, p, hp => by
    obtain ⟨h1, h2⟩ := fr_pre F who at_ i d p hp
    have hs : frL F who at_ (i + (d + 1)) = frL F who at_ (i + d) ++ frS who at_ (F ((i + d) * 4)) (F ((i + d) * 4 + 1)) (F ((i + d) * 4 + 2)) (F ((i + d) * 4 + 3)) := rfl
    rw [hs]
    exact ⟨by rw [List.length_append]; omega, (gl_app h1).trans h2⟩
/-- the entry that is kept of booking i stands at m -/
theorem fr_at {F : Nat → Int} {who at_ : Int} {n i m : Nat} (hi : i < n) (hm : (frL F who at_ i).length = m * 4) (c : ¬ (F (i * 4 + 3) = who ∧ at_ < F (i * 4 + 2) ∧ at_ ≤ F (i * 4 + 1))) :
    m * 4 + 3 < (frL F who at_ n).length ∧ (frL F who at_ (i + 1)).length = (m + 1) * 4 ∧ ∀ j, j < 4 → (frL F who at_ n).getD (m * 4 + j) 0 = ([F (i * 4), F (i * 4 + 1), frT who at_ (F (i * 4 + 2)) (F (i * 4 + 3)), F (i * 4 + 3)] : List Int).getD j 0 := by
  have hs : frL F who at_ (i + 1) = frL F who at_ i ++ frS who at_ (F (i * 4)) (F (i * 4 + 1)) (F (i * 4 + 2)) (F (i * 4 + 3)) := rfl
  rw [frS_in c] at hs
  have hl : (frL F who at_ (i + 1)).length = (m + 1) * 4 := by rw [hs, List.length_append, hm]; simp; omega
  have hp := fun p hp => fr_pre F who at_ (i + 1) (n - (i + 1)) p hp
  rw [show i + 1 + (n - (i + 1)) = n by omega] at hp
  refine ⟨(hp (m * 4 + 3) (by omega)).1, hl, fun j hj => ?_⟩
  rw [(hp (m * 4 + j) (by omega)).2, hs, gl_new hm]
theorem fr_skip {F : Nat → Int} {who at_ : Int} {i m : Nat} (hm : (frL F who at_ i).length = m * 4) (c : F (i * 4 + 3) = who ∧ at_ < F (i * 4 + 2) ∧ at_ ≤ F (i * 4 + 1)) : (frL F who at_ (i + 1)).length = m * 4 := by
  have hs : frL F who at_ (i + 1) = frL F who at_ i ++ frS who at_ (F (i * 4)) (F (i * 4 + 1)) (F (i * 4 + 2)) (F (i * 4 + 3)) := rfl
  rw [hs, frS_no c, List.append_nil]; exact hm
end Go.Proofs.Ytdpblholoogikaa
