/- Which boards are good. -/
import Derived.Test.YtapodfkoknmhdaaDoorQWhM
import Derived.Test.YtapodfkoknmhdaaDoorQWhIn
namespace Go.Proofs.YtapodfkoknmhdaaDoor
/-- a row of places, each after the one before it -/
def rwOk (F : Nat → Int) (n K : Nat) : Bool := decide (∀ j, j < K → 0 ≤ F j ∧ F j < (n : Int) ∧ (j = 0 ∨ F (j - 1) < F j))
/-- a place that may stand on a board of n -/
def plOk (f : Nat → ByteArray) (K : Nat → Nat) (R : Nat → Nat → Int) (n i : Nat) : Bool := (decide ((f i).size = 0) || nameB (bt (f i)) (f i).size) && rwOk (R i) n (K i)
/-- a good board -/
def gbB (n : Nat) (f : Nat → ByteArray) (m p : Nat) (K : Nat → Nat) (R : Nat → Nat → Int) : Bool := decide (1 ≤ n ∧ n ≤ 14 ∧ m = n ∧ p = n ∧ ∀ i, i < n → plOk f K R n i = true)
section
variable {n m p : Nat} {f : Nat → ByteArray} {K : Nat → Nat} {R : Nat → Nat → Int}
theorem gbB_sizes (h : ¬ (1 ≤ n ∧ n ≤ 14 ∧ m = n ∧ p = n)) : gbB n f m p K R = false := by
  unfold gbB
  exact decide_eq_false fun h2 => h ⟨h2.1, h2.2.1, h2.2.2.1, h2.2.2.2.1⟩
theorem gbB_place {i : Nat} (hi : i < n) (h : plOk f K R n i = false) : gbB n f m p K R = false := by
  unfold gbB
  refine decide_eq_false fun h2 => ?_
  have := h2.2.2.2.2 i hi
  rw [h] at this
  cases this
theorem gbB_mk (h0 : 1 ≤ n) (h1 : n ≤ 14) (h : ∀ i, i < n → plOk f K R n i = true) : gbB n f n n K R = true := by
  unfold gbB
  exact decide_eq_true ⟨h0, h1, rfl, rfl, h⟩
theorem gbB_parts (h : gbB n f m p K R = true) : 1 ≤ n ∧ n ≤ 14 ∧ m = n ∧ p = n ∧ ∀ i, i < n → plOk f K R n i = true := by
  unfold gbB at h
  exact of_decide_eq_true h
theorem rwOk_no {F : Nat → Int} {j : Nat} (hj : j < m) (h : ¬ (0 ≤ F j ∧ F j < (n : Int) ∧ (j = 0 ∨ F (j - 1) < F j))) : rwOk F n m = false := by
  unfold rwOk
  exact decide_eq_false fun h2 => h (h2 j hj)
theorem rwOk_mk {F : Nat → Int} (h : ∀ j, j < m → 0 ≤ F j ∧ F j < (n : Int) ∧ (j = 0 ∨ F (j - 1) < F j)) : rwOk F n m = true := by
  unfold rwOk
  exact decide_eq_true h
theorem rwOk_at {F : Nat → Int} (h : rwOk F n m = true) {j : Nat} (hj : j < m) : 0 ≤ F j ∧ F j < (n : Int) := by
  unfold rwOk at h
  have := of_decide_eq_true h j hj
  exact ⟨this.1, this.2.1⟩
theorem gbB_row (h : gbB n f m p K R = true) {i j : Nat} (hi : i < n) (hj : j < K i) : 0 ≤ R i j ∧ R i j < (n : Int) := by
  have h2 := (gbB_parts h).2.2.2.2 i hi
  unfold plOk at h2
  rw [Bool.and_eq_true] at h2
  exact rwOk_at h2.2 hj
end
end Go.Proofs.YtapodfkoknmhdaaDoor

/- Whether a path meets a wish. -/
namespace Go.Proofs.YtapodfkoknmhdaaDoor
/-- v is one of the first K -/
def hsB (F : Nat → Int) (K : Nat) (v : Int) : Bool := decide (∃ j, j < K ∧ F j = v)
theorem hsB_zero (F : Nat → Int) (v : Int) : hsB F 0 v = false := by
  unfold hsB
  exact decide_eq_false fun ⟨j, h, _⟩ => absurd h (Nat.not_lt_zero _)
theorem hsB_step (F : Nat → Int) (K : Nat) (v : Int) : hsB F (K + 1) v = (hsB F K v || decide (F K = v)) := by
  unfold hsB
  rw [← Bool.decide_or]
  refine decide_eq_decide.mpr ⟨?_, ?_⟩
  · rintro ⟨j, h, e⟩
    by_cases hj : j = K
    · subst hj; exact .inr e
    · exact .inl ⟨j, by omega, e⟩
  · rintro (⟨j, h, e⟩ | e)
    · exact ⟨j, by omega, e⟩
    · exact ⟨K, by omega, e⟩
/-- step i of a path may be gone -/
def stOk (n : Nat) (K : Nat → Nat) (R : Nat → Nat → Int) (P : Nat → Int) (i : Nat) : Bool := decide (0 ≤ P i) && (decide (P i < (n : Int)) && (decide (i = 0) || hsB (R (P (i - 1)).toNat) (K (P (i - 1)).toNat) (P i)))
/-- a path of a board -/
def ptOk (n : Nat) (K : Nat → Nat) (R : Nat → Nat → Int) (P : Nat → Int) (L : Nat) : Bool := decide (∀ i, i < L → stOk n K R P i = true)
/-- what the path says from its place i on, k places more -/
def mtR (f : Nat → ByteArray) (rn : Nat) (re : Nat → ByteArray) (an : Nat) (av : Nat → ByteArray) (P : Nat → Int) : Nat → Nat → Bool
  | 0, _ => decide (rn = 0)
  | k + 1, i => if inS av (f (P i).toNat) an = true then false else if inS re (f (P i).toNat) rn = true then true else mtR f rn re an av P k (i + 1)
/-- what is said of a path -/
def mtV (n : Nat) (f : Nat → ByteArray) (m p : Nat) (K : Nat → Nat) (R : Nat → Nat → Int) (rn : Nat) (re : Nat → ByteArray) (an : Nat) (av : Nat → ByteArray) (P : Nat → Int) (L : Nat) : Bool × Bool :=
  if gbB n f m p K R = true ∧ (namB re rn && namB av an) = true ∧ 1 ≤ L ∧ L ≤ 60 ∧ ptOk n K R P L = true then (mtR f rn re an av P L 0, true) else (false, false)
theorem ptOk_no {n : Nat} {K : Nat → Nat} {R : Nat → Nat → Int} {P : Nat → Int} {L i : Nat} (hi : i < L) (h : stOk n K R P i = false) : ptOk n K R P L = false := by
  unfold ptOk
  exact decide_eq_false fun h2 => by have := h2 i hi; rw [h] at this; cases this
theorem ptOk_mk {n : Nat} {K : Nat → Nat} {R : Nat → Nat → Int} {P : Nat → Int} {L : Nat} (h : ∀ i, i < L → stOk n K R P i = true) : ptOk n K R P L = true := by
  unfold ptOk
  exact decide_eq_true h
theorem stOk_in {n : Nat} {K : Nat → Nat} {R : Nat → Nat → Int} {P : Nat → Int} {i : Nat} (h : stOk n K R P i = true) : 0 ≤ P i ∧ P i < (n : Int) := by
  unfold stOk at h
  simp only [Bool.and_eq_true, decide_eq_true_eq] at h
  exact ⟨h.1, h.2.1⟩
end Go.Proofs.YtapodfkoknmhdaaDoor
