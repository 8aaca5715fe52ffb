/- Lists of any values (one cell each) of a call's own that grow. -/
import Derived.Test.YtjmdghkhapajiaaWhVq
namespace Go.Proofs.Ytjmdghkhapajiaa
open Go.RowKit
def vV (F : Nat → Value) (k : Nat) : List Value := (List.range k).map F
theorem vV_len (F : Nat → Value) (k : Nat) : (vV F k).length = k := by simp [vV]
theorem vV_get {F : Nat → Value} {k i : Nat} (h : i < k) : (vV F k)[i]? = some (F i) := by simp [vV, h]
theorem vV_succ (F : Nat → Value) (k : Nat) : vV F (k + 1) = vV F k ++ [F k] := by simp [vV, List.range_succ]
theorem vV_congr {F G : Nat → Value} {k : Nat} (e : ∀ i, i < k → F i = G i) : vV F k = vV G k := List.map_congr_left fun i hi => e i (List.mem_range.1 hi)
/-- the slice v is the call's own, with F's first k values -/
def OwnV (t : TypeId) (w : World) (base : Nat) (v : Value) (k : Nat) (F : Nat → Value) : Prop := w.ownsRow base t 1 v k (vV F k)
section
variable {t : TypeId} {w w' : World} {base : Nat} {v : Value} {k : Nat} {F : Nat → Value}
theorem OwnV.some (h : OwnV t w base v k F) (hk : 0 < k) : ∃ g cap, v = .slice (some ⟨g, 0, none⟩) k cap ∧ base ≤ g ∧ VP w g k F := by
  have h' := h
  obtain ⟨_, h0 | ⟨g, cap, cur, rfl, h2, h3, _⟩⟩ := h
  · omega
  · have hlt : g < w.heap.size := (Array.getElem?_eq_some_iff.1 h3).1
    refine ⟨g, cap, rfl, h2, hlt, fun i hi => ?_, fun j => World.ownsRow.frozenAt h' j⟩
    rw [World.ownsRow.cellAt h' i (by omega)]; exact vV_get hi
theorem OwnV.below (h : OwnV t w base v k F) (b : Below w.heap.size w w') : OwnV t w' base v k F := by
  obtain ⟨hl, h⟩ := h
  refine ⟨hl, ?_⟩
  rcases h with h | ⟨g, cap, cur, h1, h2, h3, h4⟩
  · exact .inl h
  · have hg : g < w.heap.size := (Array.getElem?_eq_some_iff.1 h3).1
    exact .inr ⟨g, cap, cur, h1, h2, (b.block g hg).trans h3, h4⟩
theorem OwnV.only {b : Nat} (h : OwnV t w base v k F) (o : Only b w w') (hb : b < base) : OwnV t w' base v k F := by
  obtain ⟨hl, h⟩ := h
  refine ⟨hl, ?_⟩
  rcases h with h | ⟨g, cap, cur, h1, h2, h3, h4⟩
  · exact .inl h
  · exact .inr ⟨g, cap, cur, h1, h2, (o.block g (by omega)).trans h3, h4⟩
theorem OwnV.shape (h : OwnV t w base v k F) : ∃ a cap, v = .slice a k cap := by
  obtain ⟨_, ⟨rfl, rfl⟩ | ⟨g, cap, cur, rfl, _⟩⟩ := h
  · exact ⟨_, _, rfl⟩
  · exact ⟨_, _, rfl⟩
theorem OwnV.vq {a : Option Addr} {c : Nat} (h : OwnV t w base (.slice a k c) k F) : VQ w base w.heap.size a k F := fun h0 => by
  obtain ⟨g, cap, e, hg, hP⟩ := h.some h0
  cases e
  exact ⟨g, rfl, hg, hP.lt, hP⟩
theorem OwnV.congr {G : Nat → Value} (h : OwnV t w base v k F) (e : ∀ i, i < k → F i = G i) : OwnV t w base v k G := by
  unfold OwnV at *; rw [← vV_congr e]; exact h
theorem ownV_put {x : Value} (h : w.ownsRow base t 1 v (k + 1) (vV F k ++ [x])) (e : x = F k) : OwnV t w base v (k + 1) F := by
  unfold OwnV; rw [vV_succ, ← e]; exact h
theorem ownV_none (t : TypeId) (w : World) (base : Nat) (F : Nat → Value) : OwnV t w base (.slice none 0 0) 0 F := ⟨rfl, .inl ⟨rfl, rfl⟩⟩
end
/-- a list of bools and whether it is one -/
def AnsBb (w w' : World) (e : Ending) (N : Nat) (B : Nat → Bool) (q : Bool) : Prop := ∃ a c, e = .returned (.tuple #[.slice a N c, .bool q]) ∧ VQ w' w.heap.size w'.heap.size a N (fun i => .bool (B i))
theorem ansBb_nil (w w' : World) (B : Nat → Bool) (q : Bool) : AnsBb w w' (.returned (.tuple #[.slice none 0 0, .bool q])) 0 B q := ⟨none, 0, rfl, vq_none _ _ _ _ _⟩
theorem ansBb_own {t : TypeId} {w w' : World} {a : Option Addr} {N c : Nat} {B : Nat → Bool} {q : Bool} (h : OwnV t w' w.heap.size (.slice a N c) N (fun i => .bool (B i))) : AnsBb w w' (.returned (.tuple #[.slice a N c, .bool q])) N B q := ⟨a, c, rfl, h.vq⟩
end Go.Proofs.Ytjmdghkhapajiaa
