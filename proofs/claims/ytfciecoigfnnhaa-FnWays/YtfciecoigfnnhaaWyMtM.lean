/- Which cells a line meets, as numbers. -/
import Derived.Test.YtfciecoigfnnhaaClFrB
namespace Go.Proofs.Ytfciecoigfnnhaa
open Go.RowKit

/-- how many of the first k numbers are above 0, how many below -/
def cPos (s : Nat → Int) : Nat → Int
  | 0 => 0
  | k + 1 => cPos s k + if 0 < s k then 1 else 0
def cNeg (s : Nat → Int) : Nat → Int
  | 0 => 0
  | k + 1 => cNeg s k + if s k < 0 then 1 else 0
theorem cPos_le (s : Nat → Int) (k : Nat) : 0 ≤ cPos s k ∧ cPos s k ≤ k := by
  induction k with
  | zero => simp [cPos]
  | succ k ih => unfold cPos; split <;> omega
theorem cNeg_le (s : Nat → Int) (k : Nat) : 0 ≤ cNeg s k ∧ cNeg s k ≤ k := by
  induction k with
  | zero => simp [cNeg]
  | succ k ih => unfold cNeg; split <;> omega
/-- a cell's two sides, in halves -/
def sdV (c : Int) (k : Nat) : Int := if k = 0 then 2 * c - 1 else 2 * c + 1
theorem sdV_le {c : Int} (h0 : 0 ≤ c) (h1 : c ≤ 15) (k : Nat) : -1 ≤ sdV c k ∧ sdV c k ≤ 31 := by unfold sdV; split <;> omega
/-- on which side of the line a corner lies -/
def crV (x1 y1 x2 y2 cx cy : Int) (p : Nat) : Int := (x2 - x1) * (sdV cy (p % 2) - y1) - (y2 - y1) * (sdV cx (p / 2) - x1)
/-- does a cell lie beside the line's box -/
def outB (x1 y1 x2 y2 cx cy : Int) : Bool :=
  decide (x1 < 2 * cx - 1) && decide (x2 < 2 * cx - 1) || decide (2 * cx + 1 < x1) && decide (2 * cx + 1 < x2) || decide (y1 < 2 * cy - 1) && decide (y2 < 2 * cy - 1) || decide (2 * cy + 1 < y1) && decide (2 * cy + 1 < y2)
def metB (x1 y1 x2 y2 cx cy : Int) : Bool :=
  !outB x1 y1 x2 y2 cx cy && decide (cPos (crV x1 y1 x2 y2 cx cy) 4 < 4) && decide (cNeg (crV x1 y1 x2 y2 cx cy) 4 < 4)
theorem mul_100 {a b : Int} (h0 : -100 ≤ a) (h1 : a ≤ 100) (h2 : -100 ≤ b) (h3 : b ≤ 100) : -10000 ≤ a * b ∧ a * b ≤ 10000 := by
  have e : (a * b).natAbs = a.natAbs * b.natAbs := Int.natAbs_mul a b
  have k : a.natAbs * b.natAbs ≤ 100 * 100 := Nat.mul_le_mul (by omega) (by omega)
  omega
/-- is the way from one cell to another clear of the first k cells -/
def clK (W : Int) (f : Nat → Int) (a b : Int) : Nat → Bool
  | 0 => true
  | k + 1 => clK W f a b k && (decide (f k = 0) || !metB (2 * (a % W)) (2 * (a / W)) (2 * (b % W)) (2 * (b / W)) ((k : Int) % W) ((k : Int) / W))
theorem clK_not {W : Int} {f : Nat → Int} {a b : Int} {n i : Nat} (hi : i < n) (h0 : ¬ f i = 0) (h : metB (2 * (a % W)) (2 * (a / W)) (2 * (b % W)) (2 * (b / W)) ((i : Int) % W) ((i : Int) / W) = true) : clK W f a b n = false := by
  induction n with
  | zero => omega
  | succ n ih =>
    unfold clK
    by_cases e : i = n
    · subst e; simp [h0, h]
    · simp [ih (by omega)]
/-- what is clear, of good cells -/
def clrB (W : Int) (n : Nat) (f : Nat → Int) (a b : Int) : Bool := frB n f a && frB n f b && clK W f a b n
end Go.Proofs.Ytfciecoigfnnhaa
