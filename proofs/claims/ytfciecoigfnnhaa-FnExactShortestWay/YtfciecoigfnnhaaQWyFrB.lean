/- What lies in memory while the costs of all cells are found. -/
import Derived.Test.YtfciecoigfnnhaaQWyKey
import Derived.Test.YtfciecoigfnnhaaQWyDist
namespace Go.Proofs.Ytfciecoigfnnhaa
open Go.RowKit

/-- block b holds n bools and may be written -/
structure IB (w : World) (b n : Nat) (D : Nat → Bool) : Prop where
  lt : b < w.heap.size
  c : ∀ i, i < n → w.cell? ⟨b, i, none⟩ = some (.bool (D i))
  fz : ∀ j, w.frozen? ⟨b, j, none⟩ = false
theorem IB.below {w w' : World} {B b n : Nat} {D : Nat → Bool} (h : IB w b n D) (k : Below B w w') (hB : b < B) : IB w' b n D :=
  ⟨Nat.lt_of_lt_of_le h.lt k.size, fun i hi => (k.cell (p := ⟨b, _, none⟩) hB).trans (h.c i hi), fun j => (k.frozen (p := ⟨b, j, none⟩) hB).trans (h.fz j)⟩
theorem IB.far {w : World} {b b' k n : Nat} {D : Nat → Bool} (h : IB w b n D) (hn : b ≠ b') (v : Value) : IB (w.setCell ⟨b', k, none⟩ v) b n D := by
  have o := (Only.refl b' w).set k v
  exact ⟨by rw [o.size]; exact h.lt, fun i hi => (cell_same (o.block b hn) _).trans (h.c i hi), fun j => (frozen_same (o.block b hn) j).trans (h.fz j)⟩
theorem IB.set {w : World} {b n : Nat} {D : Nat → Bool} (h : IB w b n D) {k : Nat} (hk : k < n) : IB (w.setCell ⟨b, k, none⟩ (.bool true)) b n (putD D k) := by
  refine ⟨by simpa using h.lt, fun i hi => ?_, fun j => by simpa using h.fz j⟩
  unfold putD
  by_cases e : i = k
  · subst e; rw [if_pos rfl]; exact World.cell?_setCell_same _ _ _ (h.c i hi)
  · rw [if_neg e]; exact (World.cell?_setCell_other _ _ _ _ (by simp <;> omega)).trans (h.c i hi)
theorem IP.far {w : World} {b b' k n : Nat} {F : Nat → Int} (h : IP w b n F) (hn : b ≠ b') (v : Value) : IP (w.setCell ⟨b', k, none⟩ v) b n F := h.only ((Only.refl b' w).set k v) hn
theorem infoBl : (Try.prog.info? 4).map (fun i => (i.zero, i.size, i.bytes)) = some (some (.bool false), 1, 1) := by kernel_rfl
/-- the box of the argument, the two lists of costs, the list of what is done -/
structure Frm (w wx : World) (W : Int) (q : Option Addr) (n c : Nat) (ga gb gd : Nat) (A B : Nat → Int) (D : Nat → Bool) : Prop where
  x : Bx wx w.heap.size (celL W q n c)
  a : IP wx ga n A
  b : IP wx gb n B
  d : IB wx gd n D
  be : Below w.heap.size w wx
/-- they lie apart -/
structure Fap (w : World) (ga gb gd : Nat) : Prop where
  a : w.heap.size < ga
  b : ga < gb
  d : gb < gd
theorem Frm.on {w wx w2 : World} {W : Int} {q : Option Addr} {n c ga gb gd : Nat} {A B : Nat → Int} {D : Nat → Bool} (g : Frm w wx W q n c ga gb gd A B D) (k : Below wx.heap.size wx w2) : Frm w w2 W q n c ga gb gd A B D :=
  ⟨g.x.on k, g.a.below k g.a.lt, g.b.below k g.b.lt, g.d.below k g.d.lt, stepA g.be k⟩
theorem Frm.putA {w wx : World} {W : Int} {q : Option Addr} {n c ga gb gd : Nat} {A B : Nat → Int} {D : Nat → Bool} (g : Frm w wx W q n c ga gb gd A B D) (p : Fap w ga gb gd) {k : Nat} (hk : k < n) (v : Int) : Frm w (wx.setCell ⟨ga, k, none⟩ (.int .i64 v)) W q n c ga gb gd (put A k v) B D := by
  have h1 := p.a
  have h2 := p.b
  have h3 := p.d
  exact ⟨g.x.far _ (by omega), g.a.set hk v, g.b.far (by omega) _, g.d.far (by omega) _, g.be.setCell (p := ⟨ga, k, none⟩) (by simp; omega) _⟩
theorem Frm.putB {w wx : World} {W : Int} {q : Option Addr} {n c ga gb gd : Nat} {A B : Nat → Int} {D : Nat → Bool} (g : Frm w wx W q n c ga gb gd A B D) (p : Fap w ga gb gd) {k : Nat} (hk : k < n) (v : Int) : Frm w (wx.setCell ⟨gb, k, none⟩ (.int .i64 v)) W q n c ga gb gd A (put B k v) D := by
  have h1 := p.a
  have h2 := p.b
  have h3 := p.d
  exact ⟨g.x.far _ (by omega), g.a.far (by omega) _, g.b.set hk v, g.d.far (by omega) _, g.be.setCell (p := ⟨gb, k, none⟩) (by simp; omega) _⟩
theorem Frm.putD {w wx : World} {W : Int} {q : Option Addr} {n c ga gb gd : Nat} {A B : Nat → Int} {D : Nat → Bool} (g : Frm w wx W q n c ga gb gd A B D) (p : Fap w ga gb gd) {k : Nat} (hk : k < n) : Frm w (wx.setCell ⟨gd, k, none⟩ (.bool true)) W q n c ga gb gd A B (Go.Proofs.Ytfciecoigfnnhaa.putD D k) := by
  have h1 := p.a
  have h2 := p.b
  have h3 := p.d
  exact ⟨g.x.far _ (by omega), g.a.far (by omega) _, g.b.far (by omega) _, g.d.set hk, g.be.setCell (p := ⟨gd, k, none⟩) (by simp; omega) _⟩
theorem Frm.congr {w wx : World} {W : Int} {q : Option Addr} {n c ga gb gd : Nat} {A B A' B' : Nat → Int} {D : Nat → Bool} (g : Frm w wx W q n c ga gb gd A B D) (hA : ∀ i, i < n → A i = A' i) (hB : ∀ i, i < n → B i = B' i) : Frm w wx W q n c ga gb gd A' B' D :=
  ⟨g.x, g.a.congr hA, g.b.congr hB, g.d, g.be⟩
/-- three lists are made -/
theorem frm_new (w : World) (W : Int) (q : Option Addr) (n c : Nat) :
    Frm w ((((w.alloc (celO W q n c 25)).alloc (.cells (madeCells #[.int .i64 0] n) 3)).alloc (.cells (madeCells #[.int .i64 0] n) 3)).alloc (.cells (madeCells #[.bool false] n) 4)) W q n c (w.heap.size + 1) (w.heap.size + 1 + 1) (w.heap.size + 1 + 1 + 1) (fun _ => 0) (fun _ => 0) (fun _ => false) := by
  have bA := bx_new (w := w) (celL W q n c) 25 rfl
  have al := fun (x : World) (o : Obj) => (Below.refl x.heap.size x).alloc (Nat.le_refl _) o
  have h1 : IP ((w.alloc (celO W q n c 25)).alloc (.cells (madeCells #[.int .i64 0] n) 3)) (w.heap.size + 1) n (fun _ => 0) := by
    have := row_ip (World.rowIs_made (w.alloc (celO W q n c 25)) (.int .i64 0) n 3)
    simpa using this
  have h2 : IP (((w.alloc (celO W q n c 25)).alloc (.cells (madeCells #[.int .i64 0] n) 3)).alloc (.cells (madeCells #[.int .i64 0] n) 3)) (w.heap.size + 1 + 1) n (fun _ => 0) := by
    have := row_ip (World.rowIs_made ((w.alloc (celO W q n c 25)).alloc (.cells (madeCells #[.int .i64 0] n) 3)) (.int .i64 0) n 3)
    simpa using this
  have h3 : IB ((((w.alloc (celO W q n c 25)).alloc (.cells (madeCells #[.int .i64 0] n) 3)).alloc (.cells (madeCells #[.int .i64 0] n) 3)).alloc (.cells (madeCells #[.bool false] n) 4)) (w.heap.size + 1 + 1 + 1) n (fun _ => false) := by
    have hr := World.rowIs_made (((w.alloc (celO W q n c 25)).alloc (.cells (madeCells #[.int .i64 0] n) 3)).alloc (.cells (madeCells #[.int .i64 0] n) 3)) (.bool false) n 4
    have : IB ((((w.alloc (celO W q n c 25)).alloc (.cells (madeCells #[.int .i64 0] n) 3)).alloc (.cells (madeCells #[.int .i64 0] n) 3)).alloc (.cells (madeCells #[.bool false] n) 4)) _ n (fun _ => false) := ⟨hr.lt, fun _ hi => hr.cell hi, fun j => hr.frozen j⟩
    simpa using this
  refine ⟨((bA.alloc _).alloc _).alloc _, (h1.below (al _ _) h1.lt).below (al _ _) (h1.below (al _ _) h1.lt).lt, h2.below (al _ _) h2.lt, h3, ?_⟩
  exact ((((Below.refl _ _).alloc (Nat.le_refl _) _).alloc (by simp) _).alloc (by simp <;> omega) _).alloc (by simp <;> omega) _
theorem fap_new (w : World) : Fap w (w.heap.size + 1) (w.heap.size + 1 + 1) (w.heap.size + 1 + 1 + 1) := ⟨by omega, by omega, by omega⟩
/-- the best one of the first k that are open, or -1 -/
def Bst (n : Nat) (A B : Nat → Int) (D : Nat → Bool) (k : Nat) (v : Int) : Prop :=
  (v = -1 ∧ ∀ j, j < k → 0 ≤ A j → D j = true) ∨ ∃ u : Nat, v = (u : Int) ∧ u < k ∧ u < n ∧ 0 ≤ A u ∧ D u = false ∧ ∀ j, j < k → 0 ≤ A j → D j = false → ky (A u) (B u) ≤ ky (A j) (B j)
theorem Bst.start (n : Nat) (A B : Nat → Int) (D : Nat → Bool) : Bst n A B D 0 (-1) := .inl ⟨rfl, fun j h => by omega⟩
theorem Bst.same {n : Nat} {A B : Nat → Int} {D : Nat → Bool} {k : Nat} {v : Int} (h : Bst n A B D k v) (hk : ¬ 0 ≤ A k ∨ D k = true) : Bst n A B D (k + 1) v := by
  rcases h with ⟨e, h⟩ | ⟨u, e, h1, h2, h3, h4, h5⟩
  · refine .inl ⟨e, fun j hj h0 => ?_⟩
    by_cases e2 : j = k
    · subst e2; rcases hk with q | q
      · exact absurd h0 q
      · exact q
    · exact h j (by omega) h0
  · refine .inr ⟨u, e, by omega, h2, h3, h4, fun j hj h0 hd => ?_⟩
    by_cases e2 : j = k
    · subst e2; rcases hk with q | q
      · exact absurd h0 q
      · rw [hd] at q; cases q
    · exact h5 j (by omega) h0 hd
theorem Bst.worse {n : Nat} {A B : Nat → Int} {D : Nat → Bool} {k u : Nat} (h : Bst n A B D k (u : Int)) (hk : ¬ ky (A k) (B k) < ky (A u) (B u)) : Bst n A B D (k + 1) (u : Int) := by
  rcases h with ⟨e, _⟩ | ⟨u', e, h1, h2, h3, h4, h5⟩
  · omega
  · have : u = u' := by omega
    subst this
    refine .inr ⟨u, rfl, by omega, h2, h3, h4, fun j hj h0 hd => ?_⟩
    by_cases e2 : j = k
    · subst e2; omega
    · exact h5 j (by omega) h0 hd
theorem Bst.first {n : Nat} {A B : Nat → Int} {D : Nat → Bool} {k : Nat} (h : Bst n A B D k (-1)) (hn : k < n) (h0 : 0 ≤ A k) (hd : D k = false) : Bst n A B D (k + 1) (k : Int) := by
  rcases h with ⟨_, h⟩ | ⟨u, e, _⟩
  · refine .inr ⟨k, rfl, by omega, hn, h0, hd, fun j hj h1 h2 => ?_⟩
    by_cases e2 : j = k
    · subst e2; omega
    · have := h j (by omega) h1
      rw [h2] at this; cases this
  · omega
theorem Bst.better {n : Nat} {A B : Nat → Int} {D : Nat → Bool} {k u : Nat} (h : Bst n A B D k (u : Int)) (hn : k < n) (h0 : 0 ≤ A k) (hd : D k = false) (hk : ky (A k) (B k) < ky (A u) (B u)) : Bst n A B D (k + 1) (k : Int) := by
  rcases h with ⟨e, _⟩ | ⟨u', e, h1, h2, h3, h4, h5⟩
  · omega
  · have : u = u' := by omega
    subst this
    refine .inr ⟨k, rfl, by omega, hn, h0, hd, fun j hj h1' h2' => ?_⟩
    by_cases e2 : j = k
    · subst e2; omega
    · have := h5 j (by omega) h1' h2'
      omega
/-- steps between cells by their numbers -/
def stN (W : Int) (n : Nat) (f : Nat → Int) (i k : Nat) : Int := stepV W n f (i : Int) (k : Int)
/-- the answer: two lists in new memory, the least costs -/
def AnsF (w w' : World) (e : Ending) (W : Int) (n : Nat) (f : Nat → Int) (to : Nat) : Prop :=
  ∃ (ga gb : Nat) (A B : Nat → Int), e = .returned (.tuple #[.slice (some ⟨ga, 0, none⟩) n n, .slice (some ⟨gb, 0, none⟩) n n]) ∧ IP w' ga n A ∧ IP w' gb n B ∧ ga ≠ gb ∧ w.heap.size ≤ ga ∧ w.heap.size ≤ gb ∧ Dst (stN W n f) n to A B ∧ A to = 0 ∧ B to = 0
end Go.Proofs.Ytfciecoigfnnhaa
