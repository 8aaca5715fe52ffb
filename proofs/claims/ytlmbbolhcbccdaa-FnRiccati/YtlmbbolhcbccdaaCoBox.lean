/- The four cells of a cost in floats. -/
import Derived.Test.YtlmbbolhcbccdaaCoMath
import Derived.Below
import Derived.Handy
import Derived.Laws.ResultCell
namespace Go.Proofs.Ytlmbbolhcbccdaa
open Go.RowKit

/-- a block of four numbers -/
structure Box (w : World) (b : Nat) (p q r s : Nat) : Prop where
  lt : b < w.heap.size
  c0 : w.cell? ⟨b, 0, none⟩ = some (.float .f64 p)
  c1 : w.cell? ⟨b, 1, none⟩ = some (.float .f64 q)
  c2 : w.cell? ⟨b, 2, none⟩ = some (.float .f64 r)
  c3 : w.cell? ⟨b, 3, none⟩ = some (.float .f64 s)
  f0 : w.frozen? ⟨b, 0, none⟩ = false
  f1 : w.frozen? ⟨b, 1, none⟩ = false
  f2 : w.frozen? ⟨b, 2, none⟩ = false
  f3 : w.frozen? ⟨b, 3, none⟩ = false
abbrev four (p q r s : Nat) (t : TypeId) : Obj := .cells #[.float .f64 p, .float .f64 q, .float .f64 r, .float .f64 s] t

theorem Box.below {w w' : World} {B b : Nat} {p q r s : Nat} (h : Box w b p q r s) (hb : Below B w w') (hB : b < B) : Box w' b p q r s := by
  obtain ⟨h0, h1, h2, h3, h4, h5, h6, h7, h8⟩ := h
  exact ⟨Nat.lt_of_lt_of_le h0 hb.size, (hb.cell (p := ⟨b, 0, none⟩) hB).trans h1, (hb.cell (p := ⟨b, 1, none⟩) hB).trans h2, (hb.cell (p := ⟨b, 2, none⟩) hB).trans h3, (hb.cell (p := ⟨b, 3, none⟩) hB).trans h4,
    (hb.frozen (p := ⟨b, 0, none⟩) hB).trans h5, (hb.frozen (p := ⟨b, 1, none⟩) hB).trans h6, (hb.frozen (p := ⟨b, 2, none⟩) hB).trans h7, (hb.frozen (p := ⟨b, 3, none⟩) hB).trans h8⟩
theorem Box.on {w w' : World} {b : Nat} {p q r s : Nat} (h : Box w b p q r s) (hb : Below w.heap.size w w') : Box w' b p q r s := h.below hb h.lt
theorem box_new (w : World) (p q r s : Nat) (t : TypeId) : Box (w.alloc (four p q r s t)) w.heap.size p q r s := by
  refine ⟨by simp, ?_, ?_, ?_, ?_, ?_, ?_, ?_, ?_⟩ <;> simp [go_sem]
theorem size_alloc (w : World) (o : Obj) : (w.alloc o).heap.size = w.heap.size + 1 := by simp
theorem Box.alloc {w : World} {b : Nat} {p q r s : Nat} (h : Box w b p q r s) (o : Obj) : Box (w.alloc o) b p q r s := h.on ((Below.refl w.heap.size w).alloc (Nat.le_refl _) o)
theorem below_new {w w' : World} {o : Obj} (h : Below (w.alloc o).heap.size (w.alloc o) w') : Below w.heap.size w w' := ((Below.refl _ _).alloc (Nat.le_refl _) o).trans (h.mono (by rw [size_alloc]; exact Nat.le_succ _))
theorem below_on {w w1 w2 : World} (h : Below w.heap.size w w1) (k : Below w1.heap.size w1 w2) : Below w.heap.size w w2 := h.trans (k.mono h.size)

/-- boxes laid one behind the other, behind a call -/
theorem boxes1 {w w' : World} {p q r s : Nat} {t : TypeId} (h : Below (w.alloc (four p q r s t)).heap.size (w.alloc (four p q r s t)) w') : Box w' w.heap.size p q r s ∧ Below w.heap.size w w' :=
  ⟨(box_new w p q r s t).on h, below_new h⟩
theorem boxes2 {w w' : World} {p q r s p' q' r' s' : Nat} {t t' : TypeId} (h : Below ((w.alloc (four p q r s t)).alloc (four p' q' r' s' t')).heap.size ((w.alloc (four p q r s t)).alloc (four p' q' r' s' t')) w') :
    Box w' w.heap.size p q r s ∧ Box w' (w.heap.size + 1) p' q' r' s' ∧ Below w.heap.size w w' := by
  have h1 := boxes1 h
  rw [size_alloc] at h1
  exact ⟨((box_new w p q r s t).alloc _).on h, h1.1, below_new (below_new h)⟩
theorem boxes3 {w w' : World} {p q r s p' q' r' s' p'' q'' r'' s'' : Nat} {t t' t'' : TypeId} (h : Below (((w.alloc (four p q r s t)).alloc (four p' q' r' s' t')).alloc (four p'' q'' r'' s'' t'')).heap.size (((w.alloc (four p q r s t)).alloc (four p' q' r' s' t')).alloc (four p'' q'' r'' s'' t'')) w') :
    Box w' w.heap.size p q r s ∧ Box w' (w.heap.size + 1) p' q' r' s' ∧ Box w' (w.heap.size + 1 + 1) p'' q'' r'' s'' ∧ Below w.heap.size w w' := by
  have h1 := boxes2 h
  rw [size_alloc] at h1
  exact ⟨(((box_new w p q r s t).alloc _).alloc _).on h, h1.1, h1.2.1, below_new (below_new (below_new h))⟩

/-- four cells written -/
abbrev setFour (w : World) (b : Nat) (x y z u : Value) : World := (((w.setCell ⟨b, 0, none⟩ x).setCell ⟨b, 1, none⟩ y).setCell ⟨b, 2, none⟩ z).setCell ⟨b, 3, none⟩ u
theorem heap_setFour (w : World) (b : Nat) (x y z u : Value) (c : Nat) (h : c ≠ b) : (setFour w b x y z u).heap[c]? = w.heap[c]? :=
  (Below.heap_setCell _ ⟨b, 3, none⟩ u c h).trans ((Below.heap_setCell _ ⟨b, 2, none⟩ z c h).trans ((Below.heap_setCell _ ⟨b, 1, none⟩ y c h).trans (Below.heap_setCell w ⟨b, 0, none⟩ x c h)))
theorem Box.same {w w2 : World} {b : Nat} {p q r s : Nat} (h : Box w b p q r s) (e : w2.heap[b]? = w.heap[b]?) (hs : w2.heap.size = w.heap.size) : Box w2 b p q r s :=
  ⟨hs ▸ h.lt, (World.cell?_of_block (w := w) e).trans h.c0, (World.cell?_of_block (w := w) e).trans h.c1, (World.cell?_of_block (w := w) e).trans h.c2, (World.cell?_of_block (w := w) e).trans h.c3,
    (World.frozen?_of_block (w := w) e).trans h.f0, (World.frozen?_of_block (w := w) e).trans h.f1, (World.frozen?_of_block (w := w) e).trans h.f2, (World.frozen?_of_block (w := w) e).trans h.f3⟩
theorem size_four (w : World) (b : Nat) (x y z u : Value) : (setFour w b x y z u).heap.size = w.heap.size := by simp
theorem Box.far {w : World} {b b' : Nat} {p q r s : Nat} {x y z u : Value} (h : Box w b p q r s) (hn : b ≠ b') : Box (setFour w b' x y z u) b p q r s :=
  h.same (heap_setFour w b' x y z u b hn) (size_four w b' x y z u)
theorem cell_set_same {w : World} {b o : Nat} {x v : Value} (h : w.cell? ⟨b, o, none⟩ = some v) : (w.setCell ⟨b, o, none⟩ x).cell? ⟨b, o, none⟩ = some x := World.cell?_setCell_same _ _ _ h
theorem cell_set_other {w : World} {b o o' : Nat} {x v : Value} (h : w.cell? ⟨b, o, none⟩ = some v) (hn : o ≠ o') : (w.setCell ⟨b, o', none⟩ x).cell? ⟨b, o, none⟩ = some v :=
  (World.cell?_setCell_other _ _ _ _ (by intro hh; cases hh; exact hn rfl)).trans h
theorem set_four {w : World} {b : Nat} {p q r s : Nat} (h : Box w b p q r s) (x y z u : Value) :
    (setFour w b x y z u).cell? ⟨b, 0, none⟩ = some x ∧ (setFour w b x y z u).cell? ⟨b, 1, none⟩ = some y ∧ (setFour w b x y z u).cell? ⟨b, 2, none⟩ = some z ∧ (setFour w b x y z u).cell? ⟨b, 3, none⟩ = some u := by
  refine ⟨?_, ?_, ?_, ?_⟩
  · exact cell_set_other (cell_set_other (cell_set_other (cell_set_same h.c0) (by omega)) (by omega)) (by omega)
  · exact cell_set_other (cell_set_other (cell_set_same (cell_set_other h.c1 (by omega))) (by omega)) (by omega)
  · exact cell_set_other (cell_set_same (cell_set_other (cell_set_other h.c2 (by omega)) (by omega))) (by omega)
  · exact cell_set_same (cell_set_other (cell_set_other (cell_set_other h.c3 (by omega)) (by omega)) (by omega))
theorem Box.set {w : World} {b : Nat} {p q r s : Nat} (h : Box w b p q r s) (x y z u : Nat) : Box (setFour w b (.float .f64 x) (.float .f64 y) (.float .f64 z) (.float .f64 u)) b x y z u := by
  have e := set_four h (.float .f64 x) (.float .f64 y) (.float .f64 z) (.float .f64 u)
  exact ⟨by simpa using h.lt, e.1, e.2.1, e.2.2.1, e.2.2.2, by simpa using h.f0, by simpa using h.f1, by simpa using h.f2, by simpa using h.f3⟩
theorem below_four {B b : Nat} {w w1 : World} (h : Below B w w1) (hb : B ≤ b) (x y z u : Value) : Below B w (setFour w1 b x y z u) :=
  (((h.setCell (p := ⟨b, 0, none⟩) hb _).setCell (p := ⟨b, 1, none⟩) hb _).setCell (p := ⟨b, 2, none⟩) hb _).setCell (p := ⟨b, 3, none⟩) hb _


/-- a cost as a value -/
abbrev rc (a b q r : Nat) : Value := .agg #[.float .f64 a, .float .f64 b, .float .f64 q, .float .f64 r]
theorem below_drew {B : Nat} {w w1 w2 : World} (h : Below B w w1) (e : ∃ n, w2 = w1.drewN n) : Below B w w2 := by
  obtain ⟨n, rfl⟩ := e
  exact h.trans (by
    induction n with
    | zero => exact Below.refl _ _
    | succ n ih => exact ih.trans (Below.refl _ _).drew)
end Go.Proofs.Ytlmbbolhcbccdaa
