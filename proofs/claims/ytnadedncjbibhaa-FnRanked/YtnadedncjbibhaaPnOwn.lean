/- A row of slices of a call's own: one more, and the last one longer. -/
import Derived.Test.YtnadedncjbibhaaPnSl
import Derived.Test.YtnadedncjbibhaaPnRunM
import Derived.Laws.OwnMore
namespace Go.Proofs.Ytnadedncjbibhaa
open Go.RowKit
def OwnL (w : World) (base : Nat) (v : Value) (k : Nat) (F : Nat → Int) : Prop := w.ownsRow base 66 3 v k (vL F (k * 3))
theorem own_appL {w : World} {base : Nat} {v : Value} {k n : Nat} {F f : Nat → Int} (h : w.ownsRow base 66 3 v (k + n) (vL F (k * 3) ++ vL f (n * 3))) : OwnL w base v (k + n) (apF F (k * 3) f) := by
  unfold OwnL
  rw [Nat.add_mul, vL_app]
  exact h
theorem own_newL (w : World) (base : Nat) (F : Nat → Int) : OwnL w base (.slice none 0 0) 0 F := ⟨by simp [vL], .inl ⟨rfl, rfl⟩⟩
theorem OwnL.below {w w' : World} {base : Nat} {v : Value} {k : Nat} {F : Nat → Int} (h : OwnL w base v k F) (b : Below w.heap.size w w') : OwnL w' base v k F := by
  obtain ⟨hl, h⟩ := h
  refine ⟨hl, ?_⟩
  rcases h with h | ⟨g, cap, cur, h1, h2, h3, h4⟩
  · exact .inl h
  · have hg : g < w.heap.size := (Array.getElem?_eq_some_iff.1 h3).1
    exact .inr ⟨g, cap, cur, h1, h2, (b.block g hg).trans h3, h4⟩
theorem OwnL.only {w w' : World} {base b : Nat} {v : Value} {k : Nat} {F : Nat → Int} (h : OwnL w base v k F) (o : Only b w w') (hb : b < base) : OwnL w' base v k F := by
  obtain ⟨hl, h⟩ := h
  refine ⟨hl, ?_⟩
  rcases h with h | ⟨g, cap, cur, h1, h2, h3, h4⟩
  · exact .inl h
  · exact .inr ⟨g, cap, cur, h1, h2, (o.block g (by omega)).trans h3, h4⟩
theorem OwnL.shape {w : World} {base : Nat} {v : Value} {k : Nat} {F : Nat → Int} (h : OwnL w base v k F) : ∃ a cap, v = .slice a k cap := by
  obtain ⟨_, ⟨rfl, rfl⟩ | ⟨g, cap, cur, rfl, _⟩⟩ := h
  · exact ⟨_, _, rfl⟩
  · exact ⟨_, _, rfl⟩
/-- the place of such a row, and its room -/
theorem OwnL.at_ {w : World} {base : Nat} {v : Value} {k : Nat} {F : Nat → Int} (h : OwnL w base v k F) (hk : 0 < k) : ∃ g c, v = .slice (some ⟨g, 0, none⟩) k c ∧ base ≤ g ∧ k ≤ c ∧ IP w g (k * 3) F := by
  have h' := h
  obtain ⟨_, ⟨_, h2⟩ | ⟨g, cap, cur, hv, hb, hg, h3, _⟩⟩ := h
  · omega
  · subst hv
    refine ⟨g, cap, rfl, hb, h3, (Array.getElem?_eq_some_iff.1 hg).1, fun i hi => ?_, fun j => World.ownsRow.frozenAt h' j⟩
    rw [World.ownsRow.cellAt h' i hi]
    exact vL_get hi
theorem OwnL.lq {w : World} {base : Nat} {a : Option Addr} {k c : Nat} {F : Nat → Int} (h : OwnL w base (.slice a k c) k F) : LQ w base w.heap.size a (k * 3) F := fun h0 => by
  obtain ⟨g, c', e, hg, _, hP⟩ := h.at_ (by omega)
  cases e
  exact ⟨g, rfl, hg, hP.lt, hP⟩
theorem vL_set (F : Nat → Int) (n j : Nat) (x : Int) : (vL F n).set j (.int .i64 x) = vL (put F j x) n := by
  apply List.ext_getElem?
  intro i
  rw [List.getElem?_set]
  by_cases e : j = i
  · subst e
    simp only [if_true]
    by_cases h : j < n
    · rw [if_pos (by rw [vL_len]; exact h), vL_get h, put_at]
    · rw [if_neg (by rw [vL_len]; exact h), List.getElem?_eq_none (by rw [vL_len]; omega)]
  · rw [if_neg e]
    by_cases h : i < n
    · rw [vL_get h, vL_get h, put_ne (fun h => e h.symm)]
    · rw [List.getElem?_eq_none (by rw [vL_len]; omega), List.getElem?_eq_none (by rw [vL_len]; omega)]
/-- a number of the row is another one -/
theorem OwnL.set {w : World} {base g k c : Nat} {F : Nat → Int} (h : OwnL w base (.slice (some ⟨g, 0, none⟩) k c) k F) (j : Nat) (x : Int) : OwnL (w.setCell ⟨g, j, none⟩ (.int .i64 x)) base (.slice (some ⟨g, 0, none⟩) k c) k (put F j x) := by
  have hs := World.ownsRow.stored h j (.int .i64 x)
  rw [vL_set] at hs
  exact hs.1
theorem vL_tri (a b c : Int) : vL (tri a b c) (1 * 3) = [.int .i64 a, .int .i64 b, .int .i64 c] := by simp [vL, tri, List.range_succ]
/-- the sizes of a slice -/
theorem infoSl : ∃ i, Try.prog.info? 66 = some i ∧ i.zero = some (scv 0 0 0) ∧ i.size = 3 ∧ i.bytes = 24 := by
  obtain ⟨i0, hi, hzz⟩ := Option.map_eq_some_iff.1 infoSlice
  simp only [Prod.mk.injEq] at hzz
  exact ⟨i0, hi, hzz⟩
end Go.Proofs.Ytnadedncjbibhaa
