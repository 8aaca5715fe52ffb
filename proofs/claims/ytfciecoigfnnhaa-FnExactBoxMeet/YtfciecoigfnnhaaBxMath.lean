/- Boxes as numbers: which are good, which lie within which, what lies in both, and the hull. -/
import Derived.Test.YtfciecoigfnnhaaBxBase
namespace Go.Proofs.Ytfciecoigfnnhaa
open Go.RowKit

def gtF (x y : Nat) : Bool := FloatKind.f64.format.order x y == some .gt
def ltF (x y : Nat) : Bool := FloatKind.f64.format.order x y == some .lt
/-- is a range of a box good -/
def okR (x y : Nat) : Bool := goodB x && goodB y && !gtF x y
/-- are the first k ranges -/
def allO (f g : Nat → Nat) : Nat → Bool
  | 0 => true
  | k + 1 => allO f g k && okR (f k) (g k)
theorem allO_at {f g : Nat → Nat} {n i : Nat} (h : allO f g n = true) (hi : i < n) : okR (f i) (g i) = true := by
  induction n with
  | zero => omega
  | succ n ih =>
    simp only [allO, Bool.and_eq_true] at h
    by_cases e : i = n
    · subst e; exact h.2
    · exact ih h.1 (by omega)
theorem allO_not {f g : Nat → Nat} {n i : Nat} (hi : i < n) (h : okR (f i) (g i) = false) : allO f g n = false := by
  cases e : allO f g n with
  | false => rfl
  | true => have := allO_at e hi; rw [h] at this; cases this
/-- is a box good -/
def boxB (n : Nat) (f : Nat → Nat) (m : Nat) (g : Nat → Nat) : Bool := decide (1 ≤ n) && decide (n ≤ 3) && decide (m = n) && allO f g n
theorem boxB_len {n m : Nat} {f g : Nat → Nat} (h : boxB n f m g = true) : 1 ≤ n ∧ n ≤ 3 ∧ m = n ∧ allO f g n = true := by
  simp only [boxB, Bool.and_eq_true, decide_eq_true_eq] at h
  exact ⟨h.1.1.1, h.1.1.2, h.1.2, h.2⟩
/-- are two boxes good, and of as many numbers -/
def pairB (n : Nat) (f : Nat → Nat) (m : Nat) (g : Nat → Nat) (n2 : Nat) (f2 : Nat → Nat) (m2 : Nat) (g2 : Nat → Nat) : Bool := boxB n f m g && boxB n2 f2 m2 g2 && decide (n = n2)
/-- does a range lie within another -/
def inR (x y x2 y2 : Nat) : Bool := !ltF x x2 && !gtF y y2
def allIn (f g f2 g2 : Nat → Nat) : Nat → Bool
  | 0 => true
  | k + 1 => allIn f g f2 g2 k && inR (f k) (g k) (f2 k) (g2 k)
theorem allIn_at {f g f2 g2 : Nat → Nat} {n i : Nat} (h : allIn f g f2 g2 n = true) (hi : i < n) : inR (f i) (g i) (f2 i) (g2 i) = true := by
  induction n with
  | zero => omega
  | succ n ih =>
    simp only [allIn, Bool.and_eq_true] at h
    by_cases e : i = n
    · subst e; exact h.2
    · exact ih h.1 (by omega)
theorem allIn_not {f g f2 g2 : Nat → Nat} {n i : Nat} (hi : i < n) (h : inR (f i) (g i) (f2 i) (g2 i) = false) : allIn f g f2 g2 n = false := by
  cases e : allIn f g f2 g2 n with
  | false => rfl
  | true => have := allIn_at e hi; rw [h] at this; cases this
def withinB (n : Nat) (f : Nat → Nat) (m : Nat) (g : Nat → Nat) (n2 : Nat) (f2 : Nat → Nat) (m2 : Nat) (g2 : Nat → Nat) : Bool := pairB n f m g n2 f2 m2 g2 && allIn f g f2 g2 n
/-- the greater one of two floats, the lesser one -/
def hiF (x y : Nat) : Nat := if gtF y x then y else x
def loF (x y : Nat) : Nat := if ltF y x then y else x
/-- have the first k ranges something in common -/
def allMeet (f g f2 g2 : Nat → Nat) : Nat → Bool
  | 0 => true
  | k + 1 => allMeet f g f2 g2 k && !gtF (hiF (f k) (f2 k)) (loF (g k) (g2 k))
theorem allMeet_at {f g f2 g2 : Nat → Nat} {n i : Nat} (h : allMeet f g f2 g2 n = true) (hi : i < n) : gtF (hiF (f i) (f2 i)) (loF (g i) (g2 i)) = false := by
  induction n with
  | zero => omega
  | succ n ih =>
    simp only [allMeet, Bool.and_eq_true, Bool.not_eq_true'] at h
    by_cases e : i = n
    · subst e; exact h.2
    · exact ih h.1 (by omega)
theorem allMeet_not {f g f2 g2 : Nat → Nat} {n i : Nat} (hi : i < n) (h : gtF (hiF (f i) (f2 i)) (loF (g i) (g2 i)) = true) : allMeet f g f2 g2 n = false := by
  cases e : allMeet f g f2 g2 n with
  | false => rfl
  | true => have := allMeet_at e hi; rw [h] at this; cases this
def meetB (n : Nat) (f : Nat → Nat) (m : Nat) (g : Nat → Nat) (n2 : Nat) (f2 : Nat → Nat) (m2 : Nat) (g2 : Nat → Nat) : Bool := pairB n f m g n2 f2 m2 g2 && allMeet f g f2 g2 n
theorem hiF_lt {x y : Nat} (hx : x < 18446744073709551616) (hy : y < 18446744073709551616) : hiF x y < 18446744073709551616 := by unfold hiF; split <;> assumption
theorem loF_lt {x y : Nat} (hx : x < 18446744073709551616) (hy : y < 18446744073709551616) : loF x y < 18446744073709551616 := by unfold loF; split <;> assumption
end Go.Proofs.Ytfciecoigfnnhaa
