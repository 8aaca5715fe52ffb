/- Costs of steps: the sign of a number of straight steps and a number of slant ones, the latter times the root of two. -/
import Derived.Test.YtfciecoigfnnhaaInCore
namespace Go.Proofs.Ytfciecoigfnnhaa
open Go.RowKit

def sgI (n : Int) : Int := if n < 0 then -1 else if 0 < n then 1 else 0
def cmpV (a b : Int) : Int := if sgI a = sgI b ∨ b = 0 then sgI a else if a = 0 then sgI b else if 2 * b * b < a * a then sgI a else sgI b
def stB (n : Int) : Bool := decide (0 ≤ n) && decide (n ≤ 1000000)
def cstB (a b c d : Int) : Bool := stB a && stB b && stB c && stB d
/-- what CmpCost tells -/
def cstV (a b c d : Int) : Int := if cstB a b c d then cmpV (a - c) (b - d) else 0
theorem stB_t {n : Int} (h : stB n = true) : 0 ≤ n ∧ n ≤ 1000000 := by simpa [stB] using h
theorem sq_le {a : Int} (h0 : -1000000 ≤ a) (h1 : a ≤ 1000000) : 0 ≤ a * a ∧ a * a ≤ 1000000000000 := by
  have e : a * a = ((a.natAbs * a.natAbs : Nat) : Int) := by
    rw [Int.natCast_mul, ← Int.natAbs_mul_self' a]
  have h2 : a.natAbs ≤ 1000000 := by omega
  have h3 := Nat.mul_le_mul h2 h2
  omega
end Go.Proofs.Ytfciecoigfnnhaa
