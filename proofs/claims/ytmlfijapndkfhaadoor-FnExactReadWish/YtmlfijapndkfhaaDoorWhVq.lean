/- Lists of any values (one cell each) of a call's own. -/
import Derived.Test.YtmlfijapndkfhaaDoorLqBase
namespace Go.Proofs.YtmlfijapndkfhaaDoor
open Go.RowKit
/-- a row of values in one block that may be written -/
structure VP (w : World) (b n : Nat) (f : Nat → Value) : Prop where
  lt : b < w.heap.size
  c : ∀ i, i < n → w.cell? ⟨b, i, none⟩ = some (f i)
  fz : ∀ i, w.frozen? ⟨b, i, none⟩ = false
/-- .. that lies from lo on, below hi -/
def VQ (w : World) (lo hi : Nat) (a : Option Addr) (n : Nat) (f : Nat → Value) : Prop :=
  0 < n → ∃ b, a = some ⟨b, 0, none⟩ ∧ lo ≤ b ∧ b < hi ∧ VP w b n f
section
variable {w w' : World} {lo hi lo' hi' b n : Nat} {a : Option Addr} {f g : Nat → Value}
theorem VP.of (h : VP w b n f) (hs : w.heap.size ≤ w'.heap.size) (e : w'.heap[b]? = w.heap[b]?) : VP w' b n f :=
  ⟨Nat.lt_of_lt_of_le h.lt hs, fun i hi => (cell_same e i).trans (h.c i hi), fun i => (frozen_same e i).trans (h.fz i)⟩
theorem vp_row {t : TypeId} (h : w.rowIs b t n f) : VP w b n f := ⟨h.lt, fun _ hi => h.cell hi, fun i => h.frozen i⟩
theorem VP.far {b' k : Nat} (h : VP w b n f) (v : Value) (hn : b ≠ b') : VP (w.setCell ⟨b', k, none⟩ v) b n f := by
  have hO : Only b' w (w.setCell ⟨b', k, none⟩ v) := (Only.refl b' w).set k v
  exact h.of (by simp) (hO.block b hn)
theorem VP.set (h : VP w b n f) {k : Nat} (hk : k < n) (v : Value) : VP (w.setCell ⟨b, k, none⟩ v) b n (fun i => if i = k then v else f i) := by
  refine ⟨by simpa using h.lt, fun i hi => ?_, fun j => by simpa using h.fz j⟩
  by_cases e : i = k
  · subst e; rw [if_pos rfl]; exact World.cell?_setCell_same _ _ _ (h.c i hi)
  · rw [if_neg e]; exact (World.cell?_setCell_other _ _ _ _ (by simp <;> omega)).trans (h.c i hi)
theorem VQ.on (h : VQ w lo hi a n f) (k : Below w.heap.size w w') : VQ w' lo hi a n f := fun h0 => by
  obtain ⟨b, rfl, h1, h2, hP⟩ := h h0
  exact ⟨b, rfl, h1, h2, hP.of k.size (k.block b hP.lt)⟩
theorem VQ.turns (h : VQ w lo hi a n f) (k : Turns lo' hi' w w') (hd : hi ≤ lo' ∨ hi' ≤ lo) : VQ w' lo hi a n f := fun h0 => by
  obtain ⟨b, rfl, h1, h2, hP⟩ := h h0
  exact ⟨b, rfl, h1, h2, hP.of k.size (k.block b hP.lt (by omega))⟩
theorem VQ.wide (h : VQ w lo hi a n f) (h0 : lo' ≤ lo) (h1 : hi ≤ hi') : VQ w lo' hi' a n f := fun hn => by
  obtain ⟨b, rfl, h2, h3, hP⟩ := h hn
  exact ⟨b, rfl, by omega, by omega, hP⟩
theorem vq_none (w : World) (lo hi : Nat) (a : Option Addr) (f : Nat → Value) : VQ w lo hi a 0 f := fun h => absurd h (Nat.lt_irrefl _)
theorem vq_set (h : VQ w lo hi a n f) {b k : Nat} (v : Value) (hn : b < lo ∨ hi ≤ b) : VQ (w.setCell ⟨b, k, none⟩ v) lo hi a n f := fun h0 => by
  obtain ⟨c, rfl, h2, h3, hP⟩ := h h0
  exact ⟨c, rfl, h2, h3, hP.far v (by omega)⟩
end
end Go.Proofs.YtmlfijapndkfhaaDoor
