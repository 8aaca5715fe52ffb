/- Where one may be a tick later, sorted and told once each. Numbers alone. -/
import Derived.Test.YtbndhhjgjalecabDoorQCwNb
import Derived.Test.YtbndhhjgjalecabDoorQStStep
namespace Go.Proofs.YtbndhhjgjalecabDoor

section
variable {W : Int} {n : Nat} {f : Nat → Int}
theorem nbL_up (hs : sizedB W n = true) (p : Nat) : (nbL W n f p).Pairwise (· < ·) := by
  have hW := (sizedB_t hs).1
  have hp := Int.emod_def (p : Int) W
  have hm0 := Int.emod_nonneg (p : Int) (show W ≠ 0 by omega)
  have hm1 := Int.emod_lt_of_pos (p : Int) (show 0 < W by omega)
  have e : ∀ v, v < 4 → nxp W n f v p = -1 ∨ (nxp W n f v p = (p : Int) + dY v * W + dX v ∧ 0 ≤ (p : Int) % W + dX v ∧ (p : Int) % W + dX v < W) := fun v _ => by
    unfold nxp nx
    split
    · next h =>
      right
      have hv := hvB_t (fre_hv h).1
      refine ⟨?_, hv.1, hv.2.1⟩
      rw [Int.add_mul, Int.mul_comm ((p : Int) / W) W]
      omega
    · exact .inl rfl
  have e3 := e 3 (by omega)
  have e2 := e 2 (by omega)
  have e0 := e 0 (by omega)
  have e1 := e 1 (by omega)
  simp only [dX, dY, List.getD_cons_succ, List.getD_cons_zero, Int.one_mul, Int.zero_mul, Int.neg_mul] at e0 e1 e2 e3
  unfold nbL nnK
  rw [show (nbK W n f p).take 5 = nbK W n f p from rfl]
  unfold nbK
  generalize nxp W n f 3 p = a at *
  generalize nxp W n f 2 p = b at *
  generalize nxp W n f 0 p = c at *
  generalize nxp W n f 1 p = d at *
  generalize (p : Int) % W = x at *
  have key : ∀ l : List Int, l.Pairwise (fun x y => 0 ≤ x → 0 ≤ y → x < y) → (l.filter fun x => decide (0 ≤ x)).Pairwise (· < ·) := by
    intro l
    induction l with
    | nil => intro _; exact List.Pairwise.nil
    | cons x l ih =>
      intro h
      rw [List.pairwise_cons] at h
      by_cases hx : 0 ≤ x
      · rw [List.filter_cons_of_pos (by simpa using hx), List.pairwise_cons]
        exact ⟨fun y hy => by
          rw [List.mem_filter] at hy
          exact h.1 y hy.1 hx (by simpa using hy.2), ih h.2⟩
      · rw [List.filter_cons_of_neg (by simpa using hx)]
        exact ih h.2
  refine key _ ?_
  simp only [List.pairwise_cons, List.mem_cons, List.not_mem_nil, or_false, forall_eq_or_imp, forall_eq, List.Pairwise.nil, and_true, false_implies, implies_true]
  omega
/-- the first steps, behind the place itself -/
def lfK (W : Int) (n : Nat) (f : Nat → Int) (p : Nat) : Nat → List Int
  | 0 => [(p : Int)]
  | k + 1 => lfK W n f p k ++ [stN W (hgt W n) f k p]
theorem lfK_len (W : Int) (n : Nat) (f : Nat → Int) (p k : Nat) : (lfK W n f p k).length = k + 1 := by
  induction k with
  | zero => rfl
  | succ k ih => simp [lfK, ih]
theorem lfK_mem (W : Int) (n : Nat) (f : Nat → Int) (p k : Nat) (x : Int) : x ∈ lfK W n f p k ↔ x = (p : Int) ∨ ∃ v, v < k ∧ x = stN W (hgt W n) f v p := by
  induction k with
  | zero => simp [lfK]
  | succ k ih =>
    simp only [lfK, List.mem_append, List.mem_singleton, ih]
    constructor
    · rintro ((h | ⟨v, hv, h⟩) | h)
      · exact .inl h
      · exact .inr ⟨v, by omega, h⟩
      · exact .inr ⟨k, by omega, h⟩
    · rintro (h | ⟨v, hv, h⟩)
      · exact .inl (.inl h)
      · by_cases e : v = k
        · subst e; exact .inr h
        · exact .inl (.inr ⟨v, by omega, h⟩)
theorem lf_nbL (hs : sizedB W n = true) {p : Nat} (hp : p < n) : Lib.compact ((lfK W n f p 4).mergeSort fun x y => decide (x ≤ y)) = nbL W n f p := by
  have hW := (sizedB_t hs).1
  have hc := compact_sorted (lfK W n f p 4)
  refine up_ext _ _ hc.1 (nbL_up hs p) fun x => ?_
  rw [hc.2 x, lfK_mem, mem_nbL]
  constructor
  · rintro (h | ⟨v, hv, h⟩)
    · exact ⟨p, h, .inl rfl⟩
    · rw [← stN_nx W (hgt W n) f v p hW] at h
      by_cases h0 : nx W (hgt W n) f v ((p : Int) % W) ((p : Int) / W) < 0
      · rw [if_pos h0] at h; exact ⟨p, h, .inl rfl⟩
      · rw [if_neg h0] at h
        refine ⟨x.toNat, by omega, .inr ⟨v, hv, ?_⟩⟩
        show nx W (hgt W n) f v ((p : Int) % W) ((p : Int) / W) = ((x.toNat : Nat) : Int)
        omega
  · rintro ⟨q, rfl, hq⟩
    rcases hq with rfl | ⟨v, hv, e⟩
    · exact .inl rfl
    · refine .inr ⟨v, hv, ?_⟩
      rw [← stN_nx W (hgt W n) f v p hW]
      have e2 : nx W (hgt W n) f v ((p : Int) % W) ((p : Int) / W) = (q : Int) := e
      rw [if_neg (by omega), e2]
end
end Go.Proofs.YtbndhhjgjalecabDoor
