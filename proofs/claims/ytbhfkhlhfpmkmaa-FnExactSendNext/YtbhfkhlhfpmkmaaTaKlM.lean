/- A queue of the last words, as numbers. -/
import Derived.Test.YtbhfkhlhfpmkmaaTaB
namespace Go.Proofs.Ytbhfkhlhfpmkmaa
open Go.RowKit
def klB (n : Nat) (d : Int) : Bool := decide (1 ≤ d) && decide (d ≤ 10) && decide ((n : Int) ≤ d)
def klN (n : Nat) (d : Int) : Nat := if klB n d then (if (n : Int) = d then n else n + 1) else 0
def klF (n : Nat) (f : Nat → Int) (d x : Int) (i : Nat) : Int := if (n : Int) = d then (if i + 1 < n then f (i + 1) else x) else (if i < n then f i else x)
theorem klN_le (n : Nat) (d : Int) : klN n d ≤ 11 := by
  unfold klN klB
  split
  · next h =>
    simp only [Bool.and_eq_true, decide_eq_true_eq] at h
    split <;> omega
  · omega
theorem klB_bad {n : Nat} {d : Int} (h : d < 1 ∨ 10 < d ∨ d < (n : Int)) : klB n d = false := by
  cases e : klB n d with
  | false => rfl
  | true =>
    simp only [klB, Bool.and_eq_true, decide_eq_true_eq] at e
    omega
theorem klB_ok {n : Nat} {d : Int} (h1 : 1 ≤ d) (h2 : d ≤ 10) (h3 : (n : Int) ≤ d) : klB n d = true := by
  simp [klB, h1, h2, h3]
theorem kl_nil {w w' : World} {n : Nat} {f : Nat → Int} {d x : Int} (h : klB n d = false) : AnsTb w w' (.returned (.tuple #[.slice none 0 0, .bool false])) (klN n d) (klF n f d x) (klB n d) := by
  have e : klN n d = 0 := by unfold klN; rw [h]; rfl
  rw [e, h]
  exact ansTb_nil _ _ _ _
theorem klN_eq {n : Nat} {d : Int} (h : klB n d = true) (e : (n : Int) = d) : klN n d = n := by unfold klN; rw [if_pos h, if_pos e]
theorem klN_ne {n : Nat} {d : Int} (h : klB n d = true) (e : ¬ (n : Int) = d) : klN n d = n + 1 := by unfold klN; rw [if_pos h, if_neg e]
/-- the list as both lay it together -/
theorem kl_eq {w w' : World} {n : Nat} {f G : Nat → Int} {d x : Int} {a : Option Addr} {c : Nat} (h : klB n d = true) (e : (n : Int) = d) (hg : ∀ i, i < n → G i = if i + 1 < n then f (i + 1) else x) (ho : Own w' w.heap.size (.slice a n c) n G) :
    AnsTb w w' (.returned (.tuple #[.slice a n c, .bool true])) (klN n d) (klF n f d x) (klB n d) := by
  rw [klN_eq h e, h]
  exact ansTb_own (own_cg ho fun i hi => by rw [hg i hi, klF, if_pos e])
theorem kl_ne {w w' : World} {n : Nat} {f G : Nat → Int} {d x : Int} {a : Option Addr} {c : Nat} (h : klB n d = true) (e : ¬ (n : Int) = d) (hg : ∀ i, i < n + 1 → G i = if i < n then f i else x) (ho : Own w' w.heap.size (.slice a (n + 1) c) (n + 1) G) :
    AnsTb w w' (.returned (.tuple #[.slice a (n + 1) c, .bool true])) (klN n d) (klF n f d x) (klB n d) := by
  rw [klN_ne h e, h]
  exact ansTb_own (own_cg ho fun i hi => by rw [hg i hi, klF, if_neg e])
end Go.Proofs.Ytbhfkhlhfpmkmaa
