/- Events, and what RunChart tells, as numbers. -/
import Derived.Test.YtjefakfongehdaaRChM
import Derived.Test.YtjefakfongehdaaRLqBase
namespace Go.Proofs.YtjefakfongehdaaR
/-- x is an event -/
def evtB (x : Int) : Bool := decide (0 ≤ x) && decide (x < 6)
/-- the first k are events -/
def evsK (h : Nat → Int) : Nat → Bool
  | 0 => true
  | k + 1 => evsK h k && evtB (h k)
theorem evsK_mk {h : Nat → Int} {k : Nat} (H : ∀ i, i < k → evtB (h i) = true) : evsK h k = true := by
  induction k with
  | zero => rfl
  | succ k ih => simp [evsK, ih (fun i hi => H i (by omega)), H k (by omega)]
theorem evsK_at {h : Nat → Int} {k : Nat} (H : evsK h k = true) : ∀ i, i < k → evtB (h i) = true := by
  induction k with
  | zero => intro i hi; omega
  | succ k ih =>
    simp only [evsK, Bool.and_eq_true] at H
    intro i hi
    by_cases e : i = k
    · rw [e]; exact H.2
    · exact ih H.1 i (by omega)
theorem evsK_no {h : Nat → Int} {k i : Nat} (hi : i < k) (H : evtB (h i) = false) : evsK h k = false := by
  cases e : evsK h k with
  | false => rfl
  | true => rw [evsK_at e i hi] at H; cases H
/-- a list of q events that may come -/
def evsB (q : Nat) (h : Nat → Int) : Bool := decide (q ≤ 60) && evsK h q
/-- the answer of a function that tells a list and a bool -/
def AnsQb (w w' : World) (e : Ending) (N : Nat) (F : Nat → Int) (t : Bool) : Prop := ∃ a c, e = .returned (.tuple #[.slice a N c, .bool t]) ∧ LQ w' w.heap.size w'.heap.size a N F
theorem ansQb_none {w w' : World} {N : Nat} {F : Nat → Int} {t : Bool} (h : t = false) (hN : N = 0) : AnsQb w w' (.returned (.tuple #[.slice none 0 0, .bool false])) N F t := by
  subst h hN; exact ⟨none, 0, rfl, lq_none _ _ _ _ _⟩
def runQ (n : Nat) (f : Nat → Int) (m : Nat) (g : Nat → Int) (q : Nat) (h : Nat → Int) : Bool := gchB n f m g && evsB q h
def runN (t : Bool) (q : Nat) : Nat := if t = true then q + 1 else 0
def runF (n : Nat) (f : Nat → Int) (m : Nat) (g h : Nat → Int) (k : Nat) : Int := (runC n f m g h k : Nat)
theorem own_one (w : World) (base : Nat) (x : Int) (T : Nat → Int) (hT : T 0 = x) (h : base ≤ w.heap.size) : Own (w.alloc (.cells #[.int .i64 x] 3)) base (.slice (some ⟨w.heap.size, 0, none⟩) 1 1) 1 T :=
  ⟨by simp [vL], .inr ⟨w.heap.size, 1, #[.int .i64 x], rfl, h, heap_alloc_new w _, Nat.le_refl _, by unfold maxLen; omega, by rfl, by simp [vL, hT]⟩⟩
end Go.Proofs.YtjefakfongehdaaR
