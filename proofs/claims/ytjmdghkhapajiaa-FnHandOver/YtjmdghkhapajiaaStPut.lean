/- A row that has been sorted or cut. -/
import Derived.Test.YtjmdghkhapajiaaLsOwn
import Derived.Test.YtjmdghkhapajiaaStShelf
namespace Go.Proofs.Ytjmdghkhapajiaa
open Go.RowKit Go.Sort

theorem own_some2 {w : World} {base : Nat} {v : Value} {k : Nat} {F : Nat → Int} (h : Own w base v k F) (hk : 0 < k) : ∃ g cap, v = .slice (some ⟨g, 0, none⟩) k cap ∧ base ≤ g ∧ k ≤ cap ∧ IP w g k F := by
  have h' := h
  obtain ⟨_, h0 | ⟨g, cap, cur, rfl, h2, h3, h4, _⟩⟩ := h
  · omega
  · have hlt : g < w.heap.size := (Array.getElem?_eq_some_iff.1 h3).1
    refine ⟨g, cap, rfl, h2, h4, hlt, fun i hi => ?_, fun j => World.ownsRow.frozenAt h' j⟩
    rw [World.ownsRow.cellAt h' i (by omega)]; exact vL_get hi
theorem gl_get {l : List Int} {j : Nat} (h : j < l.length) : l.toArray[j]! = gl l j := by
  rw [getElem!_pos l.toArray j (by simpa using h)]
  simp [gl, List.getD, h]
theorem ip_holds {w : World} {b : Nat} {l : List Int} (h : IP w b l.length (gl l)) : Holds (Value.int .i64) w b 0 l.toArray := fun j hj => by
  have hj' : j < l.length := by simpa using hj
  refine ⟨?_, h.fz _⟩
  rw [Nat.zero_add, gl_get hj']; exact h.c j hj'
theorem put_ip {w : World} {b : Nat} {l : List Int} (h : IP w b l.length (gl l)) (z : List Int) (hz : z.length = l.length) (q : Nat) (os : Array Obj) :
    IP (grow (putRow (Value.int .i64) (Sort.ahead w q) b 0 z.toArray) os) b l.length (gl z) ∧ Below b w (grow (putRow (Value.int .i64) (Sort.ahead w q) b 0 z.toArray) os) := by
  have hH := holds_putRow (Value.int .i64) (Sort.ahead w q) b 0 l.toArray z.toArray (holds_ahead _ _ _ _ _ _ (ip_holds h)) (by simpa using hz)
  have hb : b < (putRow (Value.int .i64) (Sort.ahead w q) b 0 z.toArray).heap.size := by rw [size_putRow]; exact h.lt
  have hG := holds_grow (Value.int .i64) _ os b 0 z.toArray hb hH
  refine ⟨⟨?_, fun i hi => ?_, fun j => ?_⟩, ⟨rfl, rfl, rfl, ?_, fun k hk => ?_⟩⟩
  · rw [size_grow]; omega
  · have := (hG i (by simpa [hz] using hi)).1
    rw [Nat.zero_add, gl_get (by omega)] at this; exact this
  · rw [frozen?_grow _ _ _ hb, frozen?_putRow]; exact h.fz j
  · rw [size_grow, size_putRow]; exact Nat.le_add_right _ _
  · rw [heap_grow_old _ _ (Nat.lt_trans hk hb)]
    unfold putRow mapBlock
    simp only [Array.getElem?_modify]
    rw [if_neg (by omega)]
    rfl
end Go.Proofs.Ytjmdghkhapajiaa
