/- After how many choices a place of one kind is come to; numbers alone. -/
import Derived.Test.YtapodfkoknmhdaaDoorQWhMtM
namespace Go.Proofs.YtapodfkoknmhdaaDoor
/-- one of the first k is in X -/
def smB (X : Nat → Bool) (F : Nat → Int) : Nat → Bool
  | 0 => false
  | k + 1 => smB X F k || X (F k).toNat
/-- all of the first k are -/
def alB (X : Nat → Bool) (F : Nat → Int) : Nat → Bool
  | 0 => true
  | k + 1 => alB X F k && X (F k).toNat
theorem smB_iff {X : Nat → Bool} {F : Nat → Int} {k : Nat} : smB X F k = true ↔ ∃ j, j < k ∧ X (F j).toNat = true := by
  induction k with
  | zero => simp [smB]
  | succ k ih =>
    unfold smB
    rw [Bool.or_eq_true, ih]
    constructor
    · rintro (⟨j, h, e⟩ | e)
      · exact ⟨j, by omega, e⟩
      · exact ⟨k, by omega, e⟩
    · rintro ⟨j, h, e⟩
      by_cases hj : j = k
      · subst hj; exact .inr e
      · exact .inl ⟨j, by omega, e⟩
theorem alB_iff {X : Nat → Bool} {F : Nat → Int} {k : Nat} : alB X F k = true ↔ ∀ j, j < k → X (F j).toNat = true := by
  induction k with
  | zero => simp [alB]
  | succ k ih =>
    unfold alB
    rw [Bool.and_eq_true, ih]
    constructor
    · rintro ⟨h1, h2⟩ j hj
      by_cases e : j = k
      · subst e; exact h2
      · exact h1 j (by omega)
    · intro h
      exact ⟨fun j hj => h j (by omega), h k (by omega)⟩
/-- one choice leads into X, as the side that has it wants: sd is whose places want to -/
def stp (g : Nat → Bool) (K : Nat → Nat) (R : Nat → Nat → Int) (sd : Bool) (X : Nat → Bool) (i : Nat) : Bool :=
  if (g i == sd) = true then smB X (R i) (K i) else (decide (K i ≠ 0) && alB X (R i) (K i))
section
variable {g : Nat → Bool} {K : Nat → Nat} {R : Nat → Nat → Int} {sd : Bool} {X Y : Nat → Bool} {n i : Nat}
/-- places stay on the board -/
def OnB (n : Nat) (K : Nat → Nat) (R : Nat → Nat → Int) : Prop := ∀ i, i < n → ∀ j, j < K i → 0 ≤ R i j ∧ R i j < (n : Int)
theorem stp_mono (hR : OnB n K R) (hi : i < n) (h : ∀ j, j < n → X j = true → Y j = true) (hs : stp g K R sd X i = true) : stp g K R sd Y i = true := by
  unfold stp at hs ⊢
  split at hs
  · rename_i e
    rw [if_pos e]
    obtain ⟨j, hj, e1⟩ := smB_iff.1 hs
    have := hR i hi j hj
    exact smB_iff.2 ⟨j, hj, h _ (by omega) e1⟩
  · rename_i e
    rw [if_neg e]
    rw [Bool.and_eq_true] at hs ⊢
    refine ⟨hs.1, alB_iff.2 fun j hj => ?_⟩
    have := hR i hi j hj
    exact h _ (by omega) (alB_iff.1 hs.2 j hj)
theorem stp_some (hR : OnB n K R) (hi : i < n) (hs : stp g K R sd X i = true) : ∃ j, j < n ∧ X j = true := by
  unfold stp at hs
  split at hs
  · obtain ⟨j, hj, e1⟩ := smB_iff.1 hs
    have := hR i hi j hj
    exact ⟨_, by omega, e1⟩
  · rw [Bool.and_eq_true, decide_eq_true_eq] at hs
    have := hR i hi 0 (by omega)
    exact ⟨_, by omega, alB_iff.1 hs.2 0 (by omega)⟩
end
/-- how many below n are in X -/
def cntB (X : Nat → Bool) : Nat → Nat
  | 0 => 0
  | n + 1 => cntB X n + (if X n = true then 1 else 0)
theorem cntB_le (X : Nat → Bool) (n : Nat) : cntB X n ≤ n := by
  induction n with
  | zero => exact Nat.le_refl _
  | succ n ih => unfold cntB; split <;> omega
theorem cntB_mono {X Y : Nat → Bool} {n : Nat} (h : ∀ j, j < n → X j = true → Y j = true) : cntB X n ≤ cntB Y n := by
  induction n with
  | zero => exact Nat.le_refl _
  | succ n ih =>
    have := ih fun j hj => h j (by omega)
    unfold cntB
    split
    · rename_i e
      rw [if_pos (h n (by omega) e)]; omega
    · split <;> omega
theorem cntB_lt {X Y : Nat → Bool} {n i : Nat} (h : ∀ j, j < n → X j = true → Y j = true) (hi : i < n) (h1 : X i = false) (h2 : Y i = true) : cntB X n < cntB Y n := by
  induction n with
  | zero => omega
  | succ n ih =>
    unfold cntB
    by_cases e : i = n
    · subst e
      have := cntB_mono (X := X) (Y := Y) (n := i) fun j hj => h j (by omega)
      rw [h1, h2]
      simp
      omega
    · have := ih (fun j hj => h j (by omega)) (by omega)
      split
      · rename_i e2
        rw [if_pos (h n (by omega) e2)]; omega
      · split <;> omega
theorem cntB_pos {X : Nat → Bool} {n i : Nat} (hi : i < n) (h : X i = true) : 1 ≤ cntB X n := by
  have := cntB_lt (X := fun _ => false) (Y := X) (n := n) (i := i) (fun j _ h => by cases h) hi rfl h
  omega
/-- after how many choices at most a place of kind z is come to, seen from i, within r rounds; -1 where it is not -/
def lvl (kn : Nat → Int) (z : Int) (g : Nat → Bool) (K : Nat → Nat) (R : Nat → Nat → Int) (sd : Bool) : Nat → Nat → Int
  | 0, i => if (kn i == z) = true then 0 else -1
  | r + 1, i => if 0 ≤ lvl kn z g K R sd r i then lvl kn z g K R sd r i else if ((kn i == 0) && stp g K R sd (fun j => decide (0 ≤ lvl kn z g K R sd r j)) i) = true then ((r + 1 : Nat) : Int) else -1
section
variable {kn : Nat → Int} {z : Int} {g : Nat → Bool} {K : Nat → Nat} {R : Nat → Nat → Int} {sd : Bool} {n : Nat}
/-- come to within r rounds -/
def inL (kn : Nat → Int) (z : Int) (g : Nat → Bool) (K : Nat → Nat) (R : Nat → Nat → Int) (sd : Bool) (r j : Nat) : Bool := decide (0 ≤ lvl kn z g K R sd r j)
theorem lvl_lo (r i : Nat) : -1 ≤ lvl kn z g K R sd r i := by
  cases r with
  | zero => unfold lvl; split <;> omega
  | succ r => unfold lvl; split; · omega
              · split <;> omega
theorem lvl_hi (r i : Nat) : lvl kn z g K R sd r i ≤ (r : Int) := by
  induction r with
  | zero => unfold lvl; split <;> omega
  | succ r ih => unfold lvl; split; · omega
                 · split <;> omega
theorem lvl_stay {r i : Nat} (h : 0 ≤ lvl kn z g K R sd r i) : lvl kn z g K R sd (r + 1) i = lvl kn z g K R sd r i := by
  rw [lvl, if_pos h]
theorem lvl_new {r i : Nat} (h : ¬ 0 ≤ lvl kn z g K R sd r i) (hs : ((kn i == 0) && stp g K R sd (inL kn z g K R sd r) i) = true) : lvl kn z g K R sd (r + 1) i = ((r + 1 : Nat) : Int) := by
  rw [lvl, if_neg h]; exact if_pos hs
theorem lvl_no {r i : Nat} (h : ¬ 0 ≤ lvl kn z g K R sd r i) (hs : ((kn i == 0) && stp g K R sd (inL kn z g K R sd r) i) = false) : lvl kn z g K R sd (r + 1) i = -1 := by
  rw [lvl, if_neg h]; exact if_neg (by intro h2; rw [show (fun j => decide (0 ≤ lvl kn z g K R sd r j)) = inL kn z g K R sd r from rfl, hs] at h2; cases h2)
theorem inL_mono (r j : Nat) (h : inL kn z g K R sd r j = true) : inL kn z g K R sd (r + 1) j = true := by
  unfold inL at h ⊢
  rw [lvl_stay (of_decide_eq_true h)]; exact h
theorem inL_le {r s : Nat} (hrs : r ≤ s) (j : Nat) (h : inL kn z g K R sd r j = true) : inL kn z g K R sd s j = true := by
  induction s with
  | zero => have : r = 0 := by omega
            subst this; exact h
  | succ s ih =>
    by_cases e : r = s + 1
    · subst e; exact h
    · exact inL_mono s j (ih (by omega))
/-- a place that is new in round r + 1 finds r + 1 others there -/
theorem new_cnt (hR : OnB n K R) : ∀ (r i : Nat), i < n → inL kn z g K R sd r i = false → inL kn z g K R sd (r + 1) i = true → r + 1 ≤ cntB (inL kn z g K R sd r) n := by
  intro r
  induction r with
  | zero =>
    intro i hi h0 h1
    have hn : ¬ 0 ≤ lvl kn z g K R sd 0 i := of_decide_eq_false h0
    cases hs : ((kn i == 0) && stp g K R sd (inL kn z g K R sd 0) i) with
    | false =>
      unfold inL at h1
      rw [lvl_no hn hs] at h1
      cases h1
    | true =>
      rw [Bool.and_eq_true] at hs
      obtain ⟨j, hj, e⟩ := stp_some hR hi hs.2
      exact cntB_pos hj e
  | succ r ih =>
    intro i hi h0 h1
    have hn : ¬ 0 ≤ lvl kn z g K R sd (r + 1) i := of_decide_eq_false h0
    cases hs : ((kn i == 0) && stp g K R sd (inL kn z g K R sd (r + 1)) i) with
    | false =>
      unfold inL at h1
      rw [lvl_no hn hs] at h1
      cases h1
    | true =>
      by_cases hall : ∀ j, j < n → inL kn z g K R sd (r + 1) j = true → inL kn z g K R sd r j = true
      · exfalso
        have h0' : inL kn z g K R sd r i = false := by
          cases e : inL kn z g K R sd r i with
          | false => rfl
          | true => rw [inL_mono r i e] at h0; cases h0
        rw [Bool.and_eq_true] at hs
        have := lvl_new (of_decide_eq_false h0') (by rw [hs.1, stp_mono hR hi hall hs.2]; rfl)
        exact hn (by rw [this]; omega)
      · obtain ⟨j, hj⟩ := Classical.not_forall.1 hall
        obtain ⟨hjn, hj2⟩ := Classical.not_imp.1 hj
        obtain ⟨hj3, hj4⟩ := Classical.not_imp.1 hj2
        have hj5 : inL kn z g K R sd r j = false := by simpa using hj4
        have h5 := ih j hjn hj5 hj3
        have h6 := cntB_lt (X := inL kn z g K R sd r) (Y := inL kn z g K R sd (r + 1)) (fun j _ h => inL_mono r j h) hjn hj5 hj3
        omega
theorem lvl_lt (hR : OnB n K R) (r i : Nat) (hi : i < n) : lvl kn z g K R sd r i < (n : Int) := by
  induction r with
  | zero => unfold lvl; split <;> omega
  | succ r ih =>
    cases e0 : inL kn z g K R sd r i with
    | true => rw [lvl_stay (of_decide_eq_true e0)]; exact ih
    | false =>
      cases e1 : inL kn z g K R sd (r + 1) i with
      | false =>
        have := of_decide_eq_false e1
        omega
      | true =>
        have h1 := new_cnt hR r i hi e0 e1
        have h2 := cntB_lt (X := inL kn z g K R sd r) (Y := inL kn z g K R sd (r + 1)) (fun j _ h => inL_mono r j h) hi e0 e1
        have h3 := cntB_le (inL kn z g K R sd (r + 1)) n
        have h4 := lvl_hi (kn := kn) (z := z) (g := g) (K := K) (R := R) (sd := sd) (r + 1) i
        omega
/-- nothing is new behind round n -/
theorem lvl_closed (hR : OnB n K R) {i : Nat} (hi : i < n) (h : inL kn z g K R sd n i = false) : ((kn i == 0) && stp g K R sd (inL kn z g K R sd n) i) = false := by
  cases hs : ((kn i == 0) && stp g K R sd (inL kn z g K R sd n) i) with
  | false => rfl
  | true =>
    exfalso
    have h1 := lvl_new (of_decide_eq_false h) hs
    have h2 := lvl_lt (kn := kn) (z := z) (g := g) (sd := sd) hR (n + 1) i hi
    omega
/-- who has a number above 0 came to it by one step from a lesser number -/
theorem lvl_step {r i : Nat} (h : 0 < lvl kn z g K R sd r i) : kn i = 0 ∧ ∃ s, s < r ∧ lvl kn z g K R sd r i = ((s + 1 : Nat) : Int) ∧ stp g K R sd (inL kn z g K R sd s) i = true := by
  induction r with
  | zero => unfold lvl at h; split at h <;> omega
  | succ r ih =>
    cases e0 : inL kn z g K R sd r i with
    | true =>
      have e := lvl_stay (of_decide_eq_true e0)
      rw [e] at h
      obtain ⟨h1, s, h2, h3, h4⟩ := ih h
      exact ⟨h1, s, by omega, by rw [e]; exact h3, h4⟩
    | false =>
      cases hs : ((kn i == 0) && stp g K R sd (inL kn z g K R sd r) i) with
      | false => rw [lvl_no (of_decide_eq_false e0) hs] at h; omega
      | true =>
        have e := lvl_new (of_decide_eq_false e0) hs
        rw [Bool.and_eq_true] at hs
        exact ⟨eq_of_beq hs.1, r, by omega, e, hs.2⟩
end
/-- the program's number for a place: 14 where there is none -/
def nv (x : Int) : Int := if x < 0 then 14 else x
/-- the numbers of a board and a wish -/
def rkV (n : Nat) (kn : Nat → Int) (rn : Nat) (g : Nat → Bool) (K : Nat → Nat) (R : Nat → Nat → Int) (i : Nat) : Int :=
  if rn = 0 then (if 0 ≤ lvl kn 2 g K R false n i then -1 else 0) else lvl kn 1 g K R true n i
end Go.Proofs.YtapodfkoknmhdaaDoor
