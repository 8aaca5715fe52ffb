/- Which boards are good. -/
import Derived.Test.YtacnegfmdckpbaaDoorWhM
namespace Go.Proofs.YtacnegfmdckpbaaDoor
/-- a row of places, each after the one before it -/
def rwOk (F : Nat → Int) (n K : Nat) : Bool := decide (∀ j, j < K → 0 ≤ F j ∧ F j < (n : Int) ∧ (j = 0 ∨ F (j - 1) < F j))
/-- a place that may stand on a board of n -/
def plOk (f : Nat → ByteArray) (K : Nat → Nat) (R : Nat → Nat → Int) (n i : Nat) : Bool := (decide ((f i).size = 0) || nameB (bt (f i)) (f i).size) && rwOk (R i) n (K i)
/-- a good board -/
def gbB (n : Nat) (f : Nat → ByteArray) (m p : Nat) (K : Nat → Nat) (R : Nat → Nat → Int) : Bool := decide (1 ≤ n ∧ n ≤ 14 ∧ m = n ∧ p = n ∧ ∀ i, i < n → plOk f K R n i = true)
section
variable {n m p : Nat} {f : Nat → ByteArray} {K : Nat → Nat} {R : Nat → Nat → Int}
theorem gbB_sizes (h : ¬ (1 ≤ n ∧ n ≤ 14 ∧ m = n ∧ p = n)) : gbB n f m p K R = false := by
  unfold gbB
  exact decide_eq_false fun h2 => h ⟨h2.1, h2.2.1, h2.2.2.1, h2.2.2.2.1⟩
theorem gbB_place {i : Nat} (hi : i < n) (h : plOk f K R n i = false) : gbB n f m p K R = false := by
  unfold gbB
  refine decide_eq_false fun h2 => ?_
  have := h2.2.2.2.2 i hi
  rw [h] at this
  cases this
theorem gbB_mk (h0 : 1 ≤ n) (h1 : n ≤ 14) (h : ∀ i, i < n → plOk f K R n i = true) : gbB n f n n K R = true := by
  unfold gbB
  exact decide_eq_true ⟨h0, h1, rfl, rfl, h⟩
theorem gbB_parts (h : gbB n f m p K R = true) : 1 ≤ n ∧ n ≤ 14 ∧ m = n ∧ p = n ∧ ∀ i, i < n → plOk f K R n i = true := by
  unfold gbB at h
  exact of_decide_eq_true h
theorem rwOk_no {F : Nat → Int} {j : Nat} (hj : j < m) (h : ¬ (0 ≤ F j ∧ F j < (n : Int) ∧ (j = 0 ∨ F (j - 1) < F j))) : rwOk F n m = false := by
  unfold rwOk
  exact decide_eq_false fun h2 => h (h2 j hj)
theorem rwOk_mk {F : Nat → Int} (h : ∀ j, j < m → 0 ≤ F j ∧ F j < (n : Int) ∧ (j = 0 ∨ F (j - 1) < F j)) : rwOk F n m = true := by
  unfold rwOk
  exact decide_eq_true h
theorem rwOk_at {F : Nat → Int} (h : rwOk F n m = true) {j : Nat} (hj : j < m) : 0 ≤ F j ∧ F j < (n : Int) := by
  unfold rwOk at h
  have := of_decide_eq_true h j hj
  exact ⟨this.1, this.2.1⟩
theorem gbB_row (h : gbB n f m p K R = true) {i j : Nat} (hi : i < n) (hj : j < K i) : 0 ≤ R i j ∧ R i j < (n : Int) := by
  have h2 := (gbB_parts h).2.2.2.2 i hi
  unfold plOk at h2
  rw [Bool.and_eq_true] at h2
  exact rwOk_at h2.2 hj
end
end Go.Proofs.YtacnegfmdckpbaaDoor
