/- Plans; numbers alone. -/
import Derived.Test.YtapodfkoknmhdaaDoorQWhRkM
import Derived.Test.YtapodfkoknmhdaaDoorQWhPlM
namespace Go.Proofs.YtapodfkoknmhdaaDoor
/-- the first of the least, of all the first k -/
def nrK (N : Nat → Int) (F : Nat → Int) : Nat → Int
  | 0 => -1
  | k + 1 => if nrK N F k = -1 ∨ N (F k).toNat < N (nrK N F k).toNat then F k else nrK N F k
/-- the first of the least, of those of the first k that have a number -/
def spK (N : Nat → Int) (F : Nat → Int) : Nat → Int
  | 0 => -1
  | k + 1 => if 0 ≤ N (F k).toNat ∧ (spK N F k < 0 ∨ N (F k).toNat < N (spK N F k).toNat) then F k else spK N F k
theorem spK_in {N F : Nat → Int} {n : Nat} : ∀ k, (∀ j, j < k → 0 ≤ F j ∧ F j < (n : Int)) → spK N F k = -1 ∨ (0 ≤ spK N F k ∧ spK N F k < (n : Int)) := by
  intro k
  induction k with
  | zero => intro _; exact .inl rfl
  | succ k ih =>
    intro h
    unfold spK
    split
    · exact .inr (h k (by omega))
    · exact ih fun j hj => h j (by omega)
theorem nr_sp {N F : Nat → Int} {n : Nat} (hN : ∀ j, j < n → -1 ≤ N j ∧ N j ≤ 13) : ∀ k, (∀ j, j < k → 0 ≤ F j ∧ F j < (n : Int)) →
    (spK N F k = -1 ∧ (nrK (fun j => nv (N j)) F k = -1 ∨ (0 ≤ nrK (fun j => nv (N j)) F k ∧ nv (N (nrK (fun j => nv (N j)) F k).toNat) = 14)) ∧ ∀ j, j < k → N (F j).toNat < 0) ∨
    (0 ≤ spK N F k ∧ nrK (fun j => nv (N j)) F k = spK N F k ∧ 0 ≤ N (spK N F k).toNat ∧ N (spK N F k).toNat ≤ 13) := by
  intro k
  induction k with
  | zero => intro _; exact .inl ⟨rfl, .inl rfl, fun j hj => absurd hj (Nat.not_lt_zero _)⟩
  | succ k ih =>
    intro h
    have hk := h k (by omega)
    have hx := hN (F k).toNat (by omega)
    have i9 := ih fun j hj => h j (by omega)
    have e1 : spK N F (k + 1) = if 0 ≤ N (F k).toNat ∧ (spK N F k < 0 ∨ N (F k).toNat < N (spK N F k).toNat) then F k else spK N F k := rfl
    have e2 : nrK (fun j => nv (N j)) F (k + 1) = if nrK (fun j => nv (N j)) F k = -1 ∨ nv (N (F k).toNat) < nv (N (nrK (fun j => nv (N j)) F k).toNat) then F k else nrK (fun j => nv (N j)) F k := rfl
    rw [e1, e2]
    clear e1 e2
    generalize nrK (fun j => nv (N j)) F k = a at *
    generalize hb : spK N F k = b at *
    by_cases hr : 0 ≤ N (F k).toNat
    · have ev : nv (N (F k).toNat) = N (F k).toNat := by unfold nv; rw [if_neg (by omega)]
      rw [ev]
      rcases i9 with ⟨h1, h2, h3⟩ | ⟨h1, h2, h3, h4⟩
      · rw [if_pos ⟨hr, .inl (by omega)⟩]
        rw [if_pos (by rcases h2 with h2 | h2
                       · exact .inl h2
                       · exact .inr (by omega))]
        exact .inr ⟨hk.1, rfl, hr, hx.2⟩
      · have ev2 : nv (N b.toNat) = N b.toNat := by unfold nv; rw [if_neg (by omega)]
        rw [h2, ev2]
        by_cases hc : N (F k).toNat < N b.toNat
        · rw [if_pos ⟨hr, .inr hc⟩, if_pos (.inr hc)]
          exact .inr ⟨hk.1, rfl, hr, hx.2⟩
        · rw [if_neg (by omega), if_neg (by omega)]
          exact .inr ⟨h1, rfl, h3, h4⟩
    · have ev : nv (N (F k).toNat) = 14 := by unfold nv; rw [if_pos (by omega)]
      rw [ev, if_neg (by omega)]
      rcases i9 with ⟨h1, h2, h3⟩ | ⟨h1, h2, h3, h4⟩
      · refine .inl ⟨h1, ?_, fun j hj => ?_⟩
        · rcases h2 with h2 | h2
          · rw [if_pos (.inl h2)]
            exact .inr ⟨hk.1, ev⟩
          · rw [if_neg (by omega)]
            exact .inr h2
        · by_cases e : j = k
          · subst e; omega
          · exact h3 j (by omega)
      · have ev2 : nv (N b.toNat) = N b.toNat := by unfold nv; rw [if_neg (by omega)]
        rw [h2, ev2, if_neg (by omega)]
        exact .inr ⟨h1, rfl, h3, h4⟩
section
variable {kn : Nat → Int} {z : Int} {g : Nat → Bool} {K : Nat → Nat} {R : Nat → Nat → Int} {sd : Bool} {n rn : Nat}
theorem lvl_aim {r i : Nat} (h : lvl kn z g K R sd r i = 0) : kn i = z := by
  induction r with
  | zero =>
    unfold lvl at h
    split at h
    · rename_i e; exact eq_of_beq e
    · omega
  | succ r ih =>
    cases e0 : inL kn z g K R sd r i with
    | true => rw [lvl_stay (of_decide_eq_true e0)] at h; exact ih h
    | false =>
      cases hs : ((kn i == 0) && stp g K R sd (inL kn z g K R sd r) i) with
      | false => rw [lvl_no (of_decide_eq_false e0) hs] at h; omega
      | true => rw [lvl_new (of_decide_eq_false e0) hs] at h; omega
theorem lvl_of_aim {i : Nat} (h : kn i = z) (r : Nat) : lvl kn z g K R sd r i = 0 := by
  induction r with
  | zero => unfold lvl; rw [if_pos (by rw [h]; simp)]
  | succ r ih => rw [lvl_stay (by omega)]; exact ih
theorem lvl_kind {i : Nat} (h1 : kn i ≠ z) (h2 : kn i ≠ 0) (r : Nat) : lvl kn z g K R sd r i = -1 := by
  induction r with
  | zero => unfold lvl; rw [if_neg (by simpa using h1)]
  | succ r ih =>
    rw [lvl_no (by omega)]
    have : (kn i == 0) = false := by simpa using h2
    rw [this]; rfl
theorem rkV_bd (hR : OnB n K R) (hn : n ≤ 14) {i : Nat} (hi : i < n) : -1 ≤ rkV n kn rn g K R i ∧ rkV n kn rn g K R i ≤ 13 := by
  unfold rkV
  split
  · split <;> omega
  · have h1 := lvl_lo (kn := kn) (z := 1) (g := g) (K := K) (R := R) (sd := true) n i
    have h2 := lvl_lt (kn := kn) (z := 1) (g := g) (sd := true) hR n i hi
    omega
/-- of a place of mine that wins and is not there yet something is still to be chosen, or nothing is next -/
theorem rk_next (hR : OnB n K R) {i : Nat} (hi : i < n) (hg : g i = true) (hw : 0 ≤ rkV n kn rn g K R i) (hk2 : rn = 0 → kn i = 0 ∨ kn i = 2) (hne : ¬ (0 < rn ∧ rkV n kn rn g K R i = 0)) : K i = 0 ∨ ∃ j, j < K i ∧ 0 ≤ rkV n kn rn g K R (R i j).toNat := by
  by_cases hr : rn = 0
  · by_cases h0 : K i = 0
    · exact .inl h0
    right
    refine Classical.byContradiction fun hno => ?_
    have hall : ∀ j, j < K i → inL kn 2 g K R false n (R i j).toNat = true := fun j hj => by
      have : ¬ 0 ≤ rkV n kn rn g K R (R i j).toNat := fun h => hno ⟨j, hj, h⟩
      unfold rkV at this
      rw [if_pos hr] at this
      unfold inL
      refine decide_eq_true ?_
      split at this
      · assumption
      · omega
    unfold rkV at hw
    rw [if_pos hr] at hw
    have hl : inL kn 2 g K R false n i = false := by
      unfold inL
      refine decide_eq_false fun h => ?_
      rw [if_pos h] at hw
      omega
    have hk0 : kn i = 0 := by
      rcases hk2 hr with h | h
      · exact h
      · have := lvl_of_aim (kn := kn) (z := 2) (g := g) (K := K) (R := R) (sd := false) h n
        unfold inL at hl
        rw [this] at hl
        simp at hl
    have hc := lvl_closed hR hi hl
    have : stp g K R false (inL kn 2 g K R false n) i = true := by
      unfold stp
      rw [hg, if_neg (by simp), decide_eq_true h0, alB_iff.2 hall]; rfl
    rw [hk0, this] at hc
    simp at hc
  · right
    have hw2 : 0 < lvl kn 1 g K R true n i := by
      unfold rkV at hw hne
      rw [if_neg hr] at hw hne
      omega
    obtain ⟨_, s, hs, _, h4⟩ := lvl_step hw2
    unfold stp at h4
    rw [hg, if_pos (by simp)] at h4
    obtain ⟨j, hj, e⟩ := smB_iff.1 h4
    refine ⟨j, hj, ?_⟩
    unfold rkV
    rw [if_neg hr]
    exact of_decide_eq_true (inL_le (by omega) _ e)
end
/-- what is chosen at place i -/
def stF (n : Nat) (kn : Nat → Int) (rn : Nat) (g : Nat → Bool) (K : Nat → Nat) (R : Nat → Nat → Int) (i : Nat) : Int :=
  if g i = true ∧ 0 ≤ rkV n kn rn g K R i ∧ ¬ (0 < rn ∧ rkV n kn rn g K R i = 0) then spK (rkV n kn rn g K R) (R i) (K i) else -1
/-- the program's choice is the same -/
theorem st_near {n : Nat} {kn : Nat → Int} {rn : Nat} {g : Nat → Bool} {K : Nat → Nat} {R : Nat → Nat → Int} (hR : OnB n K R) (hn : n ≤ 14) {i : Nat} (hi : i < n) (hg : g i = true) (hw : 0 ≤ rkV n kn rn g K R i) (hk2 : rn = 0 → kn i = 0 ∨ kn i = 2) (hne : ¬ (0 < rn ∧ rkV n kn rn g K R i = 0)) :
    nrK (fun j => nv (rkV n kn rn g K R j)) (R i) (K i) = stF n kn rn g K R i := by
  unfold stF
  rw [if_pos ⟨hg, hw, hne⟩]
  have h9 := nr_sp (N := rkV n kn rn g K R) (F := R i) (n := n) (fun j hj => rkV_bd hR hn hj) (K i) (hR i hi)
  rcases h9 with ⟨h1, h2, h3⟩ | ⟨_, h2, _, _⟩
  · rcases rk_next hR hi hg hw hk2 hne with h0 | ⟨j, hj, h0⟩
    · rw [h0]; rfl
    · have := h3 j hj
      omega
  · exact h2
/-- the list of n numbers -/
def fnL (F : Nat → Int) (n : Nat) : List Int := (List.range n).map F
theorem fnL_len (F : Nat → Int) (n : Nat) : (fnL F n).length = n := by simp [fnL]
theorem fnL_get (F : Nat → Int) {n i : Nat} (h : i < n) : gl (fnL F n) i = F i := by simp [fnL, gl, h]
/-- the places that win, rising -/
def wnL (N : Nat → Int) : Nat → List Int
  | 0 => []
  | k + 1 => if 0 ≤ N k then wnL N k ++ [(k : Int)] else wnL N k
theorem wnL_len (N : Nat → Int) (k : Nat) : (wnL N k).length ≤ k := by
  induction k with
  | zero => exact Nat.le_refl _
  | succ k ih => unfold wnL; split
                 · rw [List.length_append]; simp; omega
                 · omega
/-- the board and the wish may be asked for -/
def bwB (n : Nat) (f : Nat → ByteArray) (m p : Nat) (K : Nat → Nat) (R : Nat → Nat → Int) (rn : Nat) (re : Nat → ByteArray) (an : Nat) (av : Nat → ByteArray) : Bool := gbB n f m p K R && (namB re rn && namB av an)
end Go.Proofs.YtapodfkoknmhdaaDoor
