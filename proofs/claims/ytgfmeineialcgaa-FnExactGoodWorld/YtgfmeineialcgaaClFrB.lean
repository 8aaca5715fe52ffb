/- Which places are free. -/
import Derived.Test.YtgfmeineialcgaaClGround
import Derived.Test.YtgfmeineialcgaaLsOwn
namespace Go.Proofs.Ytgfmeineialcgaa
open Go.RowKit

/-- is at the number of a free cell -/
def frB (n : Nat) (f : Nat → Int) (at_ : Int) : Bool := decide (0 ≤ at_) && decide (at_ < (n : Int)) && decide (f at_.toNat = 0)
theorem frB_t {n : Nat} {f : Nat → Int} {p : Int} (h : frB n f p = true) : 0 ≤ p ∧ p < (n : Int) ∧ f p.toNat = 0 := by simpa [frB, and_assoc] using h
theorem frB_mk {n : Nat} {f : Nat → Int} {p : Int} (h : 0 ≤ p ∧ p < (n : Int) ∧ f p.toNat = 0) : frB n f p = true := by simpa [frB, and_assoc] using h
theorem frB_f {n : Nat} {f : Nat → Int} {p : Int} (h : ¬ (0 ≤ p ∧ p < (n : Int) ∧ f p.toNat = 0)) : frB n f p = false := by
  cases e : frB n f p with
  | false => rfl
  | true => exact absurd (frB_t e) h

/-- the numbers of the free cells among the first k -/
def pl (f : Nat → Int) : Nat → List Int
  | 0 => []
  | k + 1 => if f k = 0 then pl f k ++ [(k : Int)] else pl f k
theorem pl_len (f : Nat → Int) (k : Nat) : (pl f k).length ≤ k := by
  induction k with
  | zero => simp [pl]
  | succ k ih =>
    unfold pl
    split
    · simp; omega
    · omega
/-- what AllPlaces tells -/
def apl (W : Int) (n : Nat) (f : Nat → Int) : List Int := if celB W n f then pl f n else []
theorem apl_len (W : Int) (n : Nat) (f : Nat → Int) : (apl W n f).length ≤ 256 := by
  unfold apl
  split
  · next h =>
    have := sized_le (celB_parts h).1
    have := pl_len f n
    omega
  · simp
end Go.Proofs.Ytgfmeineialcgaa
