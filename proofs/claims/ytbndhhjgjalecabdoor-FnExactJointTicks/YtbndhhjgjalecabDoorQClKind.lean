/- The ways, cells by their places, how far one sees: as the program reckons it. -/
import Derived.Test.YtbndhhjgjalecabDoorQClKd
import Derived.Test.YtbndhhjgjalecabDoorQClVal
import Derived.WalkMore
namespace Go.Proofs.YtbndhhjgjalecabDoor
open Go.RowKit

/-- the two tables of the ways -/
structure Tab (w : World) : Prop where
  x : ∀ i, i < 4 → w.cell? ⟨0, i, none⟩ = some (.int .i64 ([1, 0, -1, 0].getD i 0))
  y : ∀ i, i < 4 → w.cell? ⟨1, i, none⟩ = some (.int .i64 ([0, 1, 0, -1].getD i 0))
  l0 : 0 < w.heap.size
  l1 : 1 < w.heap.size
theorem Tab.on {w w' : World} (h : Tab w) (k : Below w.heap.size w w') : Tab w' :=
  ⟨fun i hi => (k.cell (p := ⟨0, i, none⟩) h.l0).trans (h.x i hi), fun i hi => (k.cell (p := ⟨1, i, none⟩) h.l1).trans (h.y i hi), Nat.lt_of_lt_of_le h.l0 k.size, Nat.lt_of_lt_of_le h.l1 k.size⟩
theorem Tab.below {B : Nat} {w w' : World} (h : Tab w) (k : Below B w w') (hB : 1 < B) : Tab w' :=
  ⟨fun i hi => (k.cell (p := ⟨0, i, none⟩) (by simp; omega)).trans (h.x i hi), fun i hi => (k.cell (p := ⟨1, i, none⟩) (by simpa using hB)).trans (h.y i hi), Nat.lt_of_lt_of_le h.l0 k.size, Nat.lt_of_lt_of_le h.l1 k.size⟩
theorem Tab.turns {lo hi : Nat} {w w' : World} (h : Tab w) (k : Turns lo hi w w') (hd : 1 < lo) : Tab w' :=
  h.below (k.below (B := 2) hd h.l1) (by omega)
/-- how many free cells stand behind one another, at most k of them -/
def fc (W H : Int) (f : Nat → Int) (v : Nat) : Nat → Int → Int → Nat
  | 0, _, _ => 0
  | k + 1, x, y => if fre W H f (x + dX v) (y + dY v) then fc W H f v k (x + dX v) (y + dY v) + 1 else 0
theorem fc_run {W H : Int} {f : Nat → Int} {v : Nat} (i : Nat) : ∀ (k : Nat) (x y : Int), i < k → (∀ j : Nat, 1 ≤ j → j ≤ i → fre W H f (x + (j : Int) * dX v) (y + (j : Int) * dY v) = true) →
    fre W H f (x + ((i + 1 : Nat) : Int) * dX v) (y + ((i + 1 : Nat) : Int) * dY v) = false → fc W H f v k x y = i := by
  induction i with
  | zero =>
    intro k x y hk _ h
    obtain ⟨k, rfl⟩ : ∃ m, k = m + 1 := ⟨k - 1, by omega⟩
    have e1 : ((0 + 1 : Nat) : Int) * dX v = dX v := by simp
    have e2 : ((0 + 1 : Nat) : Int) * dY v = dY v := by simp
    rw [e1, e2] at h
    simp [fc, h]
  | succ i ih =>
    intro k x y hk hf h
    obtain ⟨k, rfl⟩ : ∃ m, k = m + 1 := ⟨k - 1, by omega⟩
    have h1 := hf 1 (by omega) (by omega)
    have e1 : ((1 : Nat) : Int) * dX v = dX v := by simp
    have e2 : ((1 : Nat) : Int) * dY v = dY v := by simp
    rw [e1, e2] at h1
    have sx : ∀ j : Nat, x + dX v + (j : Int) * dX v = x + ((j + 1 : Nat) : Int) * dX v := fun j => by
      have : ((j + 1 : Nat) : Int) * dX v = (j : Int) * dX v + dX v := by rw [Int.natCast_add, Int.add_mul]; simp
      omega
    have sy : ∀ j : Nat, y + dY v + (j : Int) * dY v = y + ((j + 1 : Nat) : Int) * dY v := fun j => by
      have : ((j + 1 : Nat) : Int) * dY v = (j : Int) * dY v + dY v := by rw [Int.natCast_add, Int.add_mul]; simp
      omega
    have := ih k (x + dX v) (y + dY v) (by omega) (fun j h2 h3 => by rw [sx, sy]; exact hf (j + 1) (by omega) (by omega)) (by rw [sx, sy]; exact h)
    simp [fc, h1, this]
/-- what FarOf tells of a free cell -/
def farN (W H : Int) (f : Nat → Int) (v : Nat) (p : Nat) : Nat := fc W H f v 17 ((p : Int) % W) ((p : Int) / W)

theorem far_bd {u z X Y cx cy : Int} {k : Nat} (hd : (u = 1 ∧ z = 0) ∨ (u = 0 ∧ z = 1) ∨ (u = -1 ∧ z = 0) ∨ (u = 0 ∧ z = -1)) (ex : cx = X + (k : Int) * u) (ey : cy = Y + (k : Int) * z) (hb : 0 ≤ X ∧ X < 16 ∧ 0 ≤ Y ∧ Y < 16) (hk : k ≤ 16) :
    -40 ≤ cx ∧ cx ≤ 40 ∧ -40 ≤ cy ∧ cy ≤ 40 ∧ -1 ≤ u ∧ u ≤ 1 ∧ -1 ≤ z ∧ z ≤ 1 := by
  rcases hd with ⟨rfl, rfl⟩ | ⟨rfl, rfl⟩ | ⟨rfl, rfl⟩ | ⟨rfl, rfl⟩ <;> omega
theorem far_go {u z X Y W H cx cy : Int} {k : Nat} (hd : (u = 1 ∧ z = 0) ∨ (u = 0 ∧ z = 1) ∨ (u = -1 ∧ z = 0) ∨ (u = 0 ∧ z = -1)) (ex : cx = X + (k : Int) * u) (ey : cy = Y + (k : Int) * z) (hb : 0 ≤ X ∧ X < W ∧ 0 ≤ Y ∧ Y < H ∧ W ≤ 16 ∧ H ≤ 16) (h : 0 ≤ cx + u ∧ cx + u < W ∧ 0 ≤ cy + z ∧ cy + z < H) : k + 1 ≤ 16 := by
  rcases hd with ⟨rfl, rfl⟩ | ⟨rfl, rfl⟩ | ⟨rfl, rfl⟩ | ⟨rfl, rfl⟩ <;> omega
end Go.Proofs.YtbndhhjgjalecabDoor
