/- Holds one behind the other: what a run comes to. -/
import Derived.Test.YtnoaonflphameaaHdStepA
namespace Go.Proofs.Ytnoaonflphameaa
open Go.RowKit

def stN (l : Lp) (h : Hd) (f g : Nat → Int) : Nat → Hd
  | 0 => h
  | k + 1 => stepH l (stN l h f g k) (f k) (g k)
def okN (l : Lp) (h : Hd) (f g : Nat → Int) : Nat → Bool
  | 0 => true
  | k + 1 => okN l h f g k && okS l (stN l h f g k) (f k) (g k)
def runB (l : Lp) (h : Hd) (n m : Nat) (f g : Nat → Int) : Bool := goodH l h && decide (n ≤ 60) && decide (m = n) && okN l h f g n
def runH (l : Lp) (h : Hd) (n m : Nat) (f g : Nat → Int) : Hd := if runB l h n m f g then stN l h f g n else hd0
def runN (l : Lp) (h : Hd) (n m : Nat) (f g : Nat → Int) : Nat := if runB l h n m f g then n else 0
def outF (l : Lp) (h : Hd) (f g : Nat → Int) (k : Nat) : Int := (stN l h f g (k + 1)).out
def AnsR (w w' : World) (n : Nat) (F : Nat → Int) (h : Hd) (b : Bool) (e : Ending) : Prop :=
  ∃ x c, e = .returned (.tuple #[.slice x n c, hv h, .bool b]) ∧ LQ w' w.heap.size w'.heap.size x n F ∧ Below w.heap.size w w'

theorem okN_le {l : Lp} {h : Hd} {f g : Nat → Int} {n : Nat} (k : Nat) (hk : k ≤ n) (e : okN l h f g n = true) : okN l h f g k = true := by
  induction n with
  | zero => obtain rfl : k = 0 := by omega
            rfl
  | succ m ih =>
    rcases Nat.lt_or_ge k (m + 1) with h1 | h1
    · exact ih (by omega) (by unfold okN at e; exact (Bool.and_eq_true_iff.1 e).1)
    · obtain rfl : k = m + 1 := by omega
      exact e
theorem okN_no {l : Lp} {h : Hd} {f g : Nat → Int} {n k : Nat} (hk : k < n) (e : okS l (stN l h f g k) (f k) (g k) = false) : okN l h f g n = false := by
  cases e2 : okN l h f g n
  · rfl
  · have := okN_le (k + 1) hk e2
    unfold okN at this
    rw [e, Bool.and_false] at this
    cases this
theorem ret_run {fn : Func} {t u v : Tmp} {R : Ending → World → Prop} {a : Act} {w : World} {b : Nat} {h : Hd} (e : fn.results = #[.tmp u, .cell t 36, .tmp v]) (hp : a.tmps.getD t undef = .pointer (some ⟨b, 0, none⟩)) (c : Bx w b (hvs h)) (hd : a.defers = [])
    (hR : R (.returned (.tuple #[a.tmps.getD u undef, hv h, a.tmps.getD v undef])) w) : bodyPost Try.prog fn R .ret a w := by
  refine bodyPost_ret ?_ hd hR
  obtain ⟨x0, x1, x2, x3⟩ := hold_at c
  have hp' : a.tmps[t]?.getD undef = .pointer (some ⟨b, 0, none⟩) := by simpa using hp
  simp [results, e, hp', asAddr, loadVar, go_sem, x0, x1, x2, x3]
theorem runB_bad {l : Lp} {h : Hd} {n m : Nat} {f g : Nat → Int} (e : (goodH l h && decide (n ≤ 60) && decide (m = n)) = false) : runB l h n m f g = false := by
  unfold runB; rw [e]; rfl
end Go.Proofs.Ytnoaonflphameaa
