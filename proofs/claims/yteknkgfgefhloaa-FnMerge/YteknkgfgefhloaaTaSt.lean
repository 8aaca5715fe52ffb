/- A row of stamped words of a call's own. -/
import Derived.Test.YteknkgfgefhloaaTaSt3
import Derived.Test.YteknkgfgefhloaaTaB
namespace Go.Proofs.Yteknkgfgefhloaa
open Go.RowKit
def OwnS (w : World) (base : Nat) (v : Value) (k : Nat) (F : Nat → Int) : Prop := w.ownsRow base 29 3 v k (vL F (k * 3))
theorem own_app0S {w : World} {base : Nat} {v : Value} {n : Nat} {F f : Nat → Int} (h : w.ownsRow base 29 3 v (0 + n) (vL F (0 * 3) ++ vL f (n * 3))) : OwnS w base v n f := by
  have e : vL F (0 * 3) ++ vL f (n * 3) = vL f (n * 3) := by simp [vL]
  rw [e, Nat.zero_add] at h
  exact h
theorem own_appS {w : World} {base : Nat} {v : Value} {k n : Nat} {F f : Nat → Int} (h : w.ownsRow base 29 3 v (k + n) (vL F (k * 3) ++ vL f (n * 3))) : OwnS w base v (k + n) (apF F (k * 3) f) := by
  unfold OwnS
  rw [Nat.add_mul, vL_app]
  exact h
theorem own_cgS {w : World} {base : Nat} {v : Value} {k : Nat} {F G : Nat → Int} (h : OwnS w base v k F) (e : ∀ i, i < k * 3 → F i = G i) : OwnS w base v k G := by
  have : vL F (k * 3) = vL G (k * 3) := List.map_congr_left fun i hi => by rw [e i (List.mem_range.1 hi)]
  unfold OwnS at *; rw [← this]; exact h
theorem OwnS.below {w w' : World} {base : Nat} {v : Value} {k : Nat} {F : Nat → Int} (h : OwnS w base v k F) (b : Below w.heap.size w w') : OwnS w' base v k F := by
  obtain ⟨hl, h⟩ := h
  refine ⟨hl, ?_⟩
  rcases h with h | ⟨g, cap, cur, h1, h2, h3, h4⟩
  · exact .inl h
  · have hg : g < w.heap.size := (Array.getElem?_eq_some_iff.1 h3).1
    exact .inr ⟨g, cap, cur, h1, h2, (b.block g hg).trans h3, h4⟩
theorem OwnS.shape {w : World} {base : Nat} {v : Value} {k : Nat} {F : Nat → Int} (h : OwnS w base v k F) : ∃ a cap, v = .slice a k cap := by
  obtain ⟨_, ⟨rfl, rfl⟩ | ⟨g, cap, cur, rfl, _⟩⟩ := h
  · exact ⟨_, _, rfl⟩
  · exact ⟨_, _, rfl⟩
/-- the place of such a row, and its room -/
theorem OwnS.at_ {w : World} {base : Nat} {v : Value} {k : Nat} {F : Nat → Int} (h : OwnS w base v k F) (hk : 0 < k) : ∃ g c, v = .slice (some ⟨g, 0, none⟩) k c ∧ base ≤ g ∧ k ≤ c ∧ IP w g (k * 3) F := by
  have h' := h
  obtain ⟨_, ⟨_, h2⟩ | ⟨g, cap, cur, hv, hb, hg, h3, _⟩⟩ := h
  · omega
  · subst hv
    refine ⟨g, cap, rfl, hb, h3, (Array.getElem?_eq_some_iff.1 hg).1, fun i hi => ?_, fun j => World.ownsRow.frozenAt h' j⟩
    rw [World.ownsRow.cellAt h' i hi]
    exact vL_get hi
theorem OwnS.lq {w : World} {base : Nat} {a : Option Addr} {k c : Nat} {F : Nat → Int} (h : OwnS w base (.slice a k c) k F) : LQ w base w.heap.size a (k * 3) F := fun h0 => by
  obtain ⟨g, c', e, hg, _, hP⟩ := h.at_ (by omega)
  cases e
  exact ⟨g, rfl, hg, hP.lt, hP⟩
end Go.Proofs.Yteknkgfgefhloaa
