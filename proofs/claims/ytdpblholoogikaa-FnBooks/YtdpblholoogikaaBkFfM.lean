/- Numbers alone: the first free tick of a lane. -/
import Derived.Test.YtdpblholoogikaaBkM
namespace Go.Proofs.Ytdpblholoogikaa
open Go.RowKit
/-- one booking further -/
def ffS (lane long a f t x : Int) : Int := if a = lane ∧ f < x + long ∧ x < t then t else x
def ffK (F : Nat → Int) (lane from_ long : Int) : Nat → Int
  | 0 => from_
  | k + 1 => ffS lane long (F (k * 4)) (F (k * 4 + 1)) (F (k * 4 + 2)) (ffK F lane from_ long k)
def ffO (n : Nat) (F : Nat → Int) (lane from_ long : Int) : Bool := bsB n F && decide ((0 ≤ lane ∧ lane ≤ 9) ∧ (0 ≤ from_ ∧ from_ ≤ 10000) ∧ (1 ≤ long ∧ long ≤ 10000))
theorem ffO_t {n : Nat} {F : Nat → Int} {lane from_ long : Int} (h : ffO n F lane from_ long = true) : bsB n F = true ∧ (0 ≤ lane ∧ lane ≤ 9) ∧ (0 ≤ from_ ∧ from_ ≤ 10000) ∧ (1 ≤ long ∧ long ≤ 10000) := by
  unfold ffO at h; simp only [Bool.and_eq_true, decide_eq_true_eq] at h; exact h
theorem ffO_f {n : Nat} {F : Nat → Int} {lane from_ long : Int} (h : ffO n F lane from_ long = false) : bsB n F = false ∨ bsB n F = true ∧ ¬ ((0 ≤ lane ∧ lane ≤ 9) ∧ (0 ≤ from_ ∧ from_ ≤ 10000) ∧ (1 ≤ long ∧ long ≤ 10000)) := by
  unfold ffO at h
  cases e : bsB n F with
  | false => exact .inl rfl
  | true =>
    rw [e] at h
    simp only [Bool.true_and, decide_eq_false_iff_not] at h
    exact .inr ⟨rfl, h⟩
theorem ffK_in {n : Nat} {F : Nat → Int} {lane from_ long : Int} (h : bsK F n = true) (h0 : 0 ≤ from_ ∧ from_ ≤ 10000) : ∀ k, k ≤ n → 0 ≤ ffK F lane from_ long k ∧ ffK F lane from_ long k ≤ 10000 := by
  intro k
  induction k with
  | zero => intro _; exact h0
  | succ k ih =>
    intro hk
    have h1 := ih (by omega)
    have h2 := bkB_t (bsK_t h k (by omega)).1
    unfold ffK ffS
    split <;> omega
def ffQ (n : Nat) (F : Nat → Int) (lane from_ long : Int) : Bool := ffO n F lane from_ long && decide (ffK F lane from_ long n + long ≤ 10000)
def ffV (n : Nat) (F : Nat → Int) (lane from_ long : Int) : Int := if ffQ n F lane from_ long = true then ffK F lane from_ long n else 0
end Go.Proofs.Ytdpblholoogikaa
