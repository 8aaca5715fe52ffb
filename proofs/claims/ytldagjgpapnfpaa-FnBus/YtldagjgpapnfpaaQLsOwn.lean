/- Lists of numbers that are appended to. -/
import Derived.Test.YtldagjgpapnfpaaQLqBase
namespace Go.Proofs.Ytldagjgpapnfpaa
open Go.RowKit

/-- a list by its index -/
abbrev gl (l : List Int) (i : Nat) : Int := l.getD i 0
theorem vL_congr {F G : Nat → Int} {k : Nat} (h : ∀ i, i < k → F i = G i) : vL F k = vL G k := by
  unfold vL
  exact List.map_congr_left fun i hi => by rw [h i (List.mem_range.1 hi)]
theorem Own.congr {w : World} {base : Nat} {v : Value} {k : Nat} {F G : Nat → Int} (h : Own w base v k F) (e : ∀ i, i < k → F i = G i) : Own w base v k G := by
  unfold Own at *; rw [← vL_congr e]; exact h
theorem own_snoc {w : World} {base : Nat} {v : Value} {l : List Int} {x : Int} (h : w.ownsRow base 3 1 v (l.length + 1) (vL (gl l) l.length ++ [.int .i64 x])) : Own w base v (l ++ [x]).length (gl (l ++ [x])) := by
  have h1 := own_put h
  rw [List.length_append]
  refine h1.congr fun i hi => ?_
  unfold put
  by_cases e : i = l.length
  · subst e; simp [gl]
  · rw [if_neg e]
    have hi2 : i < l.length + 1 := hi
    simp [gl, List.getD, List.getElem?_append_left (show i < l.length by omega)]
theorem own_lit0 (w : World) (base : Nat) (F : Nat → Int) (h : base ≤ w.heap.size) : Own (w.alloc (.cells #[] 3)) base (.slice (some ⟨w.heap.size, 0, none⟩) 0 0) 0 F :=
  World.ownsRow_made w #[] 0 h (by unfold maxLen; omega) rfl
theorem Own.lq2 {w : World} {base : Nat} {a : Option Addr} {k c : Nat} {F : Nat → Int} (h : Own w base (.slice a k c) k F) (hs : base ≤ w.heap.size) : LQ w base w.heap.size a k F ∧ base ≤ w.heap.size := ⟨h.lq, hs⟩

/-- the answer of a function that tells a list -/
def AnsL (w w' : World) (e : Ending) (l : List Int) : Prop := ∃ a' c', e = .returned (.slice a' l.length c') ∧ LQ w' w.heap.size w'.heap.size a' l.length (gl l)
theorem ansL_nil (w w' : World) : AnsL w w' (.returned (.slice none 0 0)) [] := ⟨none, 0, rfl, lq_none _ _ _ _ _⟩
theorem ansL_own {w w' : World} {base : Nat} {a : Option Addr} {c : Nat} {l : List Int} (h : Own w' base (.slice a l.length c) l.length (gl l)) (hb : w.heap.size ≤ base) : AnsL w w' (.returned (.slice a l.length c)) l := ⟨a, c, rfl, h.lq.wide hb (Nat.le_refl _)⟩
end Go.Proofs.Ytldagjgpapnfpaa
