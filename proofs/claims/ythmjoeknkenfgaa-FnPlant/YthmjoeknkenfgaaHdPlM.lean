/- A plant: what a run of it comes to. -/
import Derived.Test.YthmjoeknkenfgaaHdRunI
namespace Go.Proofs.Ythmjoeknkenfgaa
open Go.RowKit

structure Pn where
  h : Hd
  p : Int
  s : Int
def pnStep (l : Lp) (m : Int) (x : Pn) (want : Int) : Pn :=
  ⟨stepH l x.h want x.p, cutI (wrap64 (x.p + cutI (wrap64 (x.s + dnI (stepH l x.h want x.p).out m)) (-1000000) 1000000)) (-1000000) 1000000, cutI (wrap64 (x.s + dnI (stepH l x.h want x.p).out m)) (-1000000) 1000000⟩
def pnN (l : Lp) (m : Int) (f : Nat → Int) : Nat → Pn
  | 0 => ⟨hd0, 0, 0⟩
  | k + 1 => pnStep l m (pnN l m f k) (f k)
def okP (l : Lp) (m : Int) (f : Nat → Int) : Nat → Bool
  | 0 => true
  | k + 1 => okP l m f k && okS l (pnN l m f k).h (f k) (pnN l m f k).p
def massB (m : Int) : Bool := decide (1 ≤ m ∧ m ≤ 1000)
def plB (l : Lp) (m : Int) (n : Nat) (f : Nat → Int) : Bool := goodL l && massB m && decide (n ≤ 60) && okP l m f n
def plN (l : Lp) (m : Int) (n : Nat) (f : Nat → Int) : Nat := if plB l m n f then n else 0
def plcF (l : Lp) (m : Int) (f : Nat → Int) (k : Nat) : Int := (pnN l m f (k + 1)).p
def oupF (l : Lp) (m : Int) (f : Nat → Int) (k : Nat) : Int := (pnN l m f (k + 1)).h.out
/-- the program's answer: two lists in blocks of their own -/
def AnsP2 (w w' : World) (n : Nat) (F G : Nat → Int) (b : Bool) (e : Ending) : Prop :=
  (∃ x c y d, e = .returned (.tuple #[.slice x n c, .slice y n d, .bool b]) ∧ (0 < n → ∃ b1 b2, x = some ⟨b1, 0, none⟩ ∧ y = some ⟨b2, 0, none⟩ ∧ b1 ≠ b2 ∧ w.heap.size ≤ b1 ∧ w.heap.size ≤ b2 ∧ IP w' b1 n F ∧ IP w' b2 n G)) ∧ Below w.heap.size w w'
/-- the specification's -/
def AnsS2 (w w' : World) (n : Nat) (F G : Nat → Int) (b : Bool) (e : Ending) : Prop :=
  (∃ x c y d, e = .returned (.tuple #[.slice x n c, .slice y n d, .bool b]) ∧ IL w' x n F ∧ IL w' y n G) ∧ Below w.heap.size w w'

theorem okP_le {l : Lp} {m : Int} {f : Nat → Int} {n : Nat} (k : Nat) (hk : k ≤ n) (e : okP l m f n = true) : okP l m f k = true := by
  induction n with
  | zero => obtain rfl : k = 0 := by omega
            rfl
  | succ j ih =>
    rcases Nat.lt_or_ge k (j + 1) with h1 | h1
    · exact ih (by omega) (by unfold okP at e; exact (Bool.and_eq_true_iff.1 e).1)
    · obtain rfl : k = j + 1 := by omega
      exact e
theorem okP_no {l : Lp} {m : Int} {f : Nat → Int} {n k : Nat} (hk : k < n) (e : okS l (pnN l m f k).h (f k) (pnN l m f k).p = false) : okP l m f n = false := by
  cases e2 : okP l m f n
  · rfl
  · have := okP_le (k + 1) hk e2
    unfold okP at this
    rw [e, Bool.and_false] at this
    cases this
theorem plB_bad {l : Lp} {m : Int} {n : Nat} {f : Nat → Int} (e : (goodL l && massB m && decide (n ≤ 60)) = false) : plB l m n f = false := by
  unfold plB; rw [e]; rfl
end Go.Proofs.Ythmjoeknkenfgaa
