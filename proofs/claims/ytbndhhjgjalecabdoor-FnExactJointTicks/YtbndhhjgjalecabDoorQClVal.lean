/- Which places lie within the sides. -/
import Derived.Test.YtbndhhjgjalecabDoorQSzBase
import Derived.Test.YtbndhhjgjalecabDoorQLqBase
namespace Go.Proofs.YtbndhhjgjalecabDoor
open Go.RowKit

def hvB (W H x y : Int) : Bool := decide (0 ≤ x) && decide (x < W) && decide (0 ≤ y) && decide (y < H)
theorem hvB_t {W H x y : Int} (h : hvB W H x y = true) : 0 ≤ x ∧ x < W ∧ 0 ≤ y ∧ y < H := by simpa [hvB, and_assoc] using h
theorem hvB_mk {W H x y : Int} (h : 0 ≤ x ∧ x < W ∧ 0 ≤ y ∧ y < H) : hvB W H x y = true := by simpa [hvB, and_assoc] using h
theorem hvB_f {W H x y : Int} (h : ¬ (0 ≤ x ∧ x < W ∧ 0 ≤ y ∧ y < H)) : hvB W H x y = false := by
  cases e : hvB W H x y with
  | false => rfl
  | true => exact absurd (hvB_t e) h
theorem idx_bd {W H x y : Int} {n : Nat} (hH : H * W = (n : Int)) (h : 0 ≤ x ∧ x < W ∧ 0 ≤ y ∧ y < H) : 0 ≤ y * W ∧ y * W + x < (n : Int) := by
  obtain ⟨h1, h2, h3, h4⟩ := h
  have a1 := Int.mul_nonneg h3 (show 0 ≤ W by omega)
  have a2 := Int.mul_le_mul_of_nonneg_right (show y + 1 ≤ H by omega) (show 0 ≤ W by omega)
  rw [Int.add_mul] at a2
  omega
end Go.Proofs.YtbndhhjgjalecabDoor

/- The four ways, and the cell behind one along a way. -/
namespace Go.Proofs.YtbndhhjgjalecabDoor
open Go.RowKit
def fre (W H : Int) (f : Nat → Int) (x y : Int) : Bool := hvB W H x y && decide (f (y * W + x).toNat = 0)
def dX (v : Nat) : Int := [1, 0, -1, 0].getD v 0
def dY (v : Nat) : Int := [0, 1, 0, -1].getD v 0
theorem d_bd (v : Nat) (h : v < 4) : (dX v = 1 ∧ dY v = 0) ∨ (dX v = 0 ∧ dY v = 1) ∨ (dX v = -1 ∧ dY v = 0) ∨ (dX v = 0 ∧ dY v = -1) := by
  match v, h with
  | 0, _ => decide
  | 1, _ => decide
  | 2, _ => decide
  | 3, _ => decide

/-- the cell behind one along a way, -1 where it is not free, or beyond the edge -/
def nx (W H : Int) (f : Nat → Int) (v : Nat) (x y : Int) : Int := if fre W H f (x + dX v) (y + dY v) then (y + dY v) * W + (x + dX v) else -1
theorem fre_hv {W H : Int} {f : Nat → Int} {x y : Int} (h : fre W H f x y = true) : hvB W H x y = true ∧ f (y * W + x).toNat = 0 := by simpa [fre] using h
theorem fre_no {W H : Int} {f : Nat → Int} {x y : Int} (h : fre W H f x y = false) (k : hvB W H x y = true) : ¬ f (y * W + x).toNat = 0 := by
  intro e
  simp [fre, k, e] at h

end Go.Proofs.YtbndhhjgjalecabDoor

/- Cells as a value. -/
namespace Go.Proofs.YtbndhhjgjalecabDoor
open Go.RowKit

/-- cells as a value -/
abbrev cel (W : Int) (a : Option Addr) (n c : Nat) : Value := .agg #[.int .i64 W, .slice a n c]
abbrev celL (W : Int) (a : Option Addr) (n c : Nat) : List Value := [.int .i64 W, .slice a n c]
abbrev celO (W : Int) (a : Option Addr) (n c : Nat) (t : TypeId) : Obj := .cells #[.int .i64 W, .slice a n c] t
theorem lq_zero (w : World) (lo hi : Nat) (F : Nat → Int) : LQ w lo hi none 0 F := lq_none _ _ _ _ _

/-- a return of cells out of their box -/
theorem ret_cel {fn : Func} {t : Tmp} {R : Ending → World → Prop} {a : Act} {w : World} {b : Nat} {u v : Value} (h : fn.results = #[.cell t 29]) (hp : a.tmps.getD t undef = .pointer (some ⟨b, 0, none⟩)) (c0 : w.cell? ⟨b, 0, none⟩ = some u) (c1 : w.cell? ⟨b, 1, none⟩ = some v) (hd : a.defers = [])
    (hR : R (.returned (.agg #[u, v])) w) : bodyPost Tryd.prog fn R .ret a w := by
  refine bodyPost_ret ?_ hd hR
  have hp' : a.tmps[t]?.getD undef = .pointer (some ⟨b, 0, none⟩) := by simpa using hp
  simp [results, h, hp', asAddr, loadVar, go_sem, c0, c1]

end Go.Proofs.YtbndhhjgjalecabDoor
