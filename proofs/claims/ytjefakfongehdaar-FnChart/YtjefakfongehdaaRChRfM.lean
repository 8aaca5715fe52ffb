/- What RunFlat tells, as numbers. -/
import Derived.Test.YtjefakfongehdaaRChRunM
import Derived.Test.YtjefakfongehdaaRCwRM
namespace Go.Proofs.YtjefakfongehdaaR
/-- a row is empty or full -/
def rowB (x : Nat) : Bool := decide (x = 0) || decide (x = 6)
def rowsB (K : Nat → Nat) : Nat → Bool
  | 0 => true
  | k + 1 => rowsB K k && rowB (K k)
theorem rowsB_at {K : Nat → Nat} {n : Nat} (h : rowsB K n = true) : ∀ i, i < n → rowB (K i) = true := by
  induction n with
  | zero => intro i hi; omega
  | succ n ih =>
    simp only [rowsB, Bool.and_eq_true] at h
    intro i hi
    by_cases e : i = n
    · rw [e]; exact h.2
    · exact ih h.1 i (by omega)
theorem rowsB_no {K : Nat → Nat} {n i : Nat} (hi : i < n) (h : rowB (K i) = false) : rowsB K n = false := by
  cases e : rowsB K n with
  | false => rfl
  | true => rw [rowsB_at e i hi] at h; cases h
/-- x is the number of a row that is not empty -/
def hasB (n : Nat) (K : Nat → Nat) (x : Int) : Bool := decide (0 ≤ x) && decide (x < (n : Int)) && decide (0 < K x.toNat)
theorem hasB_parts {n : Nat} {K : Nat → Nat} {x : Int} (h : hasB n K x = true) : ∃ S : Nat, x = (S : Int) ∧ S < n ∧ 0 < K S := by
  unfold hasB at h
  simp only [Bool.and_eq_true, decide_eq_true_eq] at h
  exact ⟨x.toNat, by omega, by omega, h.2⟩
theorem hasB_mk {n : Nat} {K : Nat → Nat} {S : Nat} (h1 : S < n) (h2 : 0 < K S) : hasB n K (S : Int) = true := by
  unfold hasB
  simp only [Bool.and_eq_true, decide_eq_true_eq]
  exact ⟨⟨by omega, by omega⟩, by rw [Int.toNat_natCast]; exact h2⟩
theorem hasB_zero {n : Nat} {K : Nat → Nat} {S : Nat} (h2 : K S = 0) : hasB n K (S : Int) = false := by
  unfold hasB
  rw [Int.toNat_natCast]
  simp [h2]
theorem hasB_low {n : Nat} {K : Nat → Nat} {x : Int} (h : x < 0) : hasB n K x = false := by
  unfold hasB
  simp [show ¬ 0 ≤ x by omega]
theorem hasB_high {n : Nat} {K : Nat → Nat} {x : Int} (h : (n : Int) ≤ x) : hasB n K x = false := by
  unfold hasB
  simp [show ¬ x < (n : Int) by omega]
/-- the run behind k events -/
def rfK (F : Nat → Nat → Int) (h : Nat → Int) (leaf : Int) : Nat → Int
  | 0 => leaf
  | k + 1 => F (rfK F h leaf k).toNat (h k).toNat
def rfA (n : Nat) (K : Nat → Nat) (F : Nat → Nat → Int) (h : Nat → Int) (leaf : Int) : Nat → Bool
  | 0 => hasB n K leaf
  | k + 1 => rfA n K F h leaf k && hasB n K (rfK F h leaf (k + 1))
section
variable {n : Nat} {K : Nat → Nat} {F : Nat → Nat → Int} {h : Nat → Int} {leaf : Int}
theorem rfA_at {q : Nat} (H : rfA n K F h leaf q = true) : ∀ k, k ≤ q → hasB n K (rfK F h leaf k) = true := by
  induction q with
  | zero =>
    intro k hk
    have : k = 0 := by omega
    subst this; exact H
  | succ q ih =>
    simp only [rfA, Bool.and_eq_true] at H
    intro k hk
    by_cases e : k = q + 1
    · rw [e]; exact H.2
    · exact ih H.1 k (by omega)
theorem rfA_no {q k : Nat} (hk : k ≤ q) (H : hasB n K (rfK F h leaf k) = false) : rfA n K F h leaf q = false := by
  cases e : rfA n K F h leaf q with
  | false => rfl
  | true => rw [rfA_at e k hk] at H; cases H
end
/-- what RunFlat tells -/
def rfQ (n : Nat) (K : Nat → Nat) (F : Nat → Nat → Int) (leaf : Int) (q : Nat) (h : Nat → Int) : Bool := decide (n ≤ 12) && rowsB K n && evsB q h && rfA n K F h leaf q
theorem rfQ_size {n : Nat} {K : Nat → Nat} {F : Nat → Nat → Int} {leaf : Int} {q : Nat} {h : Nat → Int} (hn : 12 < n) : rfQ n K F leaf q h = false := by
  unfold rfQ; simp [show ¬ n ≤ 12 by omega]
theorem rfQ_rows {n : Nat} {K : Nat → Nat} {F : Nat → Nat → Int} {leaf : Int} {q : Nat} {h : Nat → Int} (hn : rowsB K n = false) : rfQ n K F leaf q h = false := by
  unfold rfQ; simp [hn]
theorem rfQ_evs {n : Nat} {K : Nat → Nat} {F : Nat → Nat → Int} {leaf : Int} {q : Nat} {h : Nat → Int} (hn : evsB q h = false) : rfQ n K F leaf q h = false := by
  unfold rfQ; simp [hn]
theorem rfQ_run {n : Nat} {K : Nat → Nat} {F : Nat → Nat → Int} {leaf : Int} {q : Nat} {h : Nat → Int} (hn : rfA n K F h leaf q = false) : rfQ n K F leaf q h = false := by
  unfold rfQ; simp [hn]
theorem rfQ_leaf {n : Nat} {K : Nat → Nat} {F : Nat → Nat → Int} {leaf : Int} {q : Nat} {h : Nat → Int} (hn : hasB n K leaf = false) : rfQ n K F leaf q h = false := rfQ_run (rfA_no (Nat.zero_le _) hn)
theorem rfQ_mk {n : Nat} {K : Nat → Nat} {F : Nat → Nat → Int} {leaf : Int} {q : Nat} {h : Nat → Int} (h1 : n ≤ 12) (h2 : rowsB K n = true) (h3 : evsB q h = true) (h4 : rfA n K F h leaf q = true) : rfQ n K F leaf q h = true := by
  unfold rfQ; simp [h1, h2, h3, h4]
theorem rfN_le (n : Nat) (K : Nat → Nat) (F : Nat → Nat → Int) (leaf : Int) (q : Nat) (h : Nat → Int) : runN (rfQ n K F leaf q h) q ≤ 61 := by
  cases e : rfQ n K F leaf q h with
  | false => exact Nat.zero_le _
  | true =>
    unfold rfQ evsB at e
    simp only [Bool.and_eq_true, decide_eq_true_eq] at e
    show q + 1 ≤ 61
    omega
/-- an answer that is there -/
theorem ansQb_some {w w' : World} {B q : Nat} {aa : Option Addr} {cc : Nat} {F : Nat → Int} {t : Bool} (ht : t = true) (hb : w.heap.size ≤ B) (ho : Own w' B (.slice aa (q + 1) cc) (q + 1) F) : AnsQb w w' (.returned (.tuple #[.slice aa (q + 1) cc, .bool true])) (runN t q) F t := by
  subst ht
  exact ⟨aa, cc, rfl, ho.lq.wide hb (Nat.le_refl _)⟩
theorem ansQb_no {w w' : World} {q : Nat} {F : Nat → Int} {t : Bool} (ht : t = false) : AnsQb w w' (.returned (.tuple #[.slice none 0 0, .bool false])) (runN t q) F t := by
  subst ht
  exact ansQb_none rfl rfl
end Go.Proofs.YtjefakfongehdaaR
