/- What can't be kept away from, found place by place; numbers alone. -/
import Derived.Test.YtapodfkoknmhdaaDoorQWhStM
namespace Go.Proofs.YtapodfkoknmhdaaDoor
/-- round t of the model, the first i places done -/
structure Sf (n : Nat) (kn : Nat → Int) (g : Nat → Bool) (K : Nat → Nat) (R : Nat → Nat → Int) (t i : Nat) (X : Nat → Bool) : Prop where
  up : ∀ j, j < n → X j = true → inL kn 2 g K R false n j = true
  old : ∀ j, j < n → inL kn 2 g K R false t j = true → X j = true
  done : ∀ j, j < i → j < n → inL kn 2 g K R false (t + 1) j = true → X j = true
def setX (X : Nat → Bool) (i : Nat) (j : Nat) : Bool := if j = i then true else X j
section
variable {n : Nat} {kn : Nat → Int} {g : Nat → Bool} {K : Nat → Nat} {R : Nat → Nat → Int} {t i : Nat} {X : Nat → Bool}
theorem Sf.start (h : ∀ j, j < n → X j = (kn j == 2)) : Sf n kn g K R 0 0 X := by
  refine ⟨fun j hj hx => ?_, fun j hj hx => ?_, fun j hj => absurd hj (Nat.not_lt_zero _)⟩
  · rw [h j hj] at hx
    unfold inL
    rw [lvl_of_aim (eq_of_beq hx)]; rfl
  · rw [h j hj]
    unfold inL lvl at hx
    split at hx
    · assumption
    · cases hx
theorem Sf.set (h : Sf n kn g K R t i X) (hR : OnB n K R) (hi : i < n) (hk : kn i = 0 ∨ kn i = 2) (hx : X i = false) (hs : stp g K R false X i = true) : Sf n kn g K R t (i + 1) (setX X i) := by
  refine ⟨fun j hj hx2 => ?_, fun j hj hx2 => ?_, fun j hj hjn hx2 => ?_⟩
  · unfold setX at hx2
    split at hx2
    · rename_i e
      subst e
      have h1 := stp_mono hR hi h.up hs
      have hk0 : kn j = 0 := by
        rcases hk with hk | hk
        · exact hk
        · have h2 := h.old j hi (by unfold inL; rw [lvl_of_aim hk]; rfl)
          rw [h2] at hx; cases hx
      cases hl : inL kn 2 g K R false n j with
      | true => rfl
      | false =>
        have h3 := lvl_closed hR hi hl
        rw [hk0, h1] at h3
        simp at h3
    · exact h.up j hj hx2
  · unfold setX
    split
    · rfl
    · exact h.old j hj hx2
  · unfold setX
    split
    · rfl
    · exact h.done j (by omega) hjn hx2
theorem Sf.skip (h : Sf n kn g K R t i X) (hR : OnB n K R) (hi : i < n) (hs : X i = true ∨ stp g K R false X i = false) : Sf n kn g K R t (i + 1) X := by
  refine ⟨h.up, h.old, fun j hj hjn hx2 => ?_⟩
  by_cases e : j = i
  · subst e
    rcases hs with hs | hs
    · exact hs
    · cases e0 : inL kn 2 g K R false t j with
      | true => exact h.old j hjn e0
      | false =>
        exfalso
        cases hs2 : ((kn j == 0) && stp g K R false (inL kn 2 g K R false t) j) with
        | false =>
          unfold inL at hx2
          rw [lvl_no (of_decide_eq_false e0) hs2] at hx2
          cases hx2
        | true =>
          rw [Bool.and_eq_true] at hs2
          have := stp_mono hR hi h.old hs2.2
          rw [this] at hs; cases hs
  · exact h.done j (by omega) hjn hx2
theorem Sf.next (h : Sf n kn g K R t n X) : Sf n kn g K R (t + 1) 0 X := ⟨h.up, fun j hj hx => h.done j hj hj hx, fun _ hj => absurd hj (Nat.not_lt_zero _)⟩
theorem Sf.last (h : Sf n kn g K R n 0 X) {j : Nat} (hj : j < n) : X j = inL kn 2 g K R false n j := by
  cases e : inL kn 2 g K R false n j with
  | true => exact h.old j hj e
  | false =>
    cases e2 : X j with
    | false => rfl
    | true => rw [h.up j hj e2] at e; cases e
end
/-- the model's number of a place: -1 where it is in X -/
def rkX (X : Nat → Bool) (i : Nat) : Int := if X i = true then -1 else 0
theorem rkX_neg (X : Nat → Bool) (i : Nat) : decide (rkX X i < 0) = X i := by
  unfold rkX
  cases X i <;> rfl
theorem rkX_pos (X : Nat → Bool) (i : Nat) : decide (0 ≤ rkX X i) = !(X i) := by
  unfold rkX
  cases X i <;> rfl
end Go.Proofs.YtapodfkoknmhdaaDoor
