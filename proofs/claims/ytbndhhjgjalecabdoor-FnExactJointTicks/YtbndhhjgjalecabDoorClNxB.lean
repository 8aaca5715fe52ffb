/- The four ways, and the cell behind one along a way. -/
import Derived.Test.YtbndhhjgjalecabDoorSzHv
namespace Go.Proofs.YtbndhhjgjalecabDoor
open Go.RowKit
def fre (W H : Int) (f : Nat → Int) (x y : Int) : Bool := hvB W H x y && decide (f (y * W + x).toNat = 0)
def dX (v : Nat) : Int := [1, 0, -1, 0].getD v 0
def dY (v : Nat) : Int := [0, 1, 0, -1].getD v 0
theorem d_bd (v : Nat) (h : v < 4) : (dX v = 1 ∧ dY v = 0) ∨ (dX v = 0 ∧ dY v = 1) ∨ (dX v = -1 ∧ dY v = 0) ∨ (dX v = 0 ∧ dY v = -1) := by
  match v, h with
  | 0, _ => decide
  | 1, _ => decide
  | 2, _ => decide
  | 3, _ => decide

/-- the cell behind one along a way, -1 where it is not free, or beyond the edge -/
def nx (W H : Int) (f : Nat → Int) (v : Nat) (x y : Int) : Int := if fre W H f (x + dX v) (y + dY v) then (y + dY v) * W + (x + dX v) else -1
theorem fre_hv {W H : Int} {f : Nat → Int} {x y : Int} (h : fre W H f x y = true) : hvB W H x y = true ∧ f (y * W + x).toNat = 0 := by simpa [fre] using h
theorem fre_no {W H : Int} {f : Nat → Int} {x y : Int} (h : fre W H f x y = false) (k : hvB W H x y = true) : ¬ f (y * W + x).toNat = 0 := by
  intro e
  simp [fre, k, e] at h

end Go.Proofs.YtbndhhjgjalecabDoor
