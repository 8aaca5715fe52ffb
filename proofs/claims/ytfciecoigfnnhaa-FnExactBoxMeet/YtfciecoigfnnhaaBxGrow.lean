/- A box whose two lists of floats grow by appends, in a block M of its own. -/
import Derived.Test.YtfciecoigfnnhaaBxPair
import Derived.Deep.Cut
namespace Go.Proofs.Ytfciecoigfnnhaa
open Go.RowKit

/-- block M holds two lists of the call's own, in blocks beyond M, not in the same one; below M nothing has turned -/
structure Gb (w4 wr : World) (M : Nat) (a1 : Option Addr) (k1 c1 : Nat) (a2 : Option Addr) (k2 c2 : Nat) (P Q : Nat → Nat) : Prop where
  b : Below M w4 wr
  m : Bx wr M (bxL a1 k1 c1 a2 k2 c2)
  o1 : OwnF wr (M + 1) (.slice a1 k1 c1) k1 P
  o2 : OwnF wr (M + 1) (.slice a2 k2 c2) k2 Q
  ap : ∀ g, (Value.slice a1 k1 c1).ownBlock = some g → (Value.slice a2 k2 c2).ownBlock ≠ some g

theorem own_grow {w w' : World} {base : Nat} {v : Value} {k : Nat} {F : Nat → Nat} {row : Option Nat} (h : OwnF w base v k F) (g : w.grownBy w' row) (hn : ∀ q, v.ownBlock = some q → row ≠ some q) : OwnF w' base v k F := by
  obtain ⟨hl, h⟩ := h
  refine ⟨hl, ?_⟩
  rcases h with h | ⟨q, cap, cur, h1, h2, h3, h4⟩
  · exact .inl h
  · have hq : q < w.heap.size := (Array.getElem?_eq_some_iff.1 h3).1
    exact .inr ⟨q, cap, cur, h1, h2, (g.block q hq (fun e => hn q (by rw [h1]; rfl) e.symm)).trans h3, h4⟩
theorem OwnF.alloc {w : World} {base : Nat} {v : Value} {k : Nat} {F : Nat → Nat} (h : OwnF w base v k F) (o : Obj) : OwnF (w.alloc o) base v k F := h.below ((Below.refl w.heap.size w).alloc (Nat.le_refl _) o)

section
variable {w4 wr w' : World} {M : Nat} {a1 : Option Addr} {k1 c1 : Nat} {a2 : Option Addr} {k2 c2 : Nat} {P Q : Nat → Nat} {o : Obj} {a' : Option Addr} {c' x : Nat}
theorem Gb.mid1 (h : Gb w4 wr M a1 k1 c1 a2 k2 c2 P Q) (hg : (wr.alloc o).grownBy w' (Value.slice a1 k1 c1).ownBlock) : Below (M + 1) wr w' ∧ Bx w' M (bxL a1 k1 c1 a2 k2 c2) := by
  have hb : Below (M + 1) wr w' := ((Below.refl (M + 1) wr).alloc h.m.lt o).grown hg (by have := h.m.lt; rw [size_al]; omega) (fun q hq => (World.ownsRow.lt h.o1 q hq).1)
  exact ⟨hb, h.m.below hb (Nat.lt_succ_self _)⟩
theorem Gb.mid2 (h : Gb w4 wr M a1 k1 c1 a2 k2 c2 P Q) (hg : (wr.alloc o).grownBy w' (Value.slice a2 k2 c2).ownBlock) : Below (M + 1) wr w' ∧ Bx w' M (bxL a1 k1 c1 a2 k2 c2) := by
  have hb : Below (M + 1) wr w' := ((Below.refl (M + 1) wr).alloc h.m.lt o).grown hg (by have := h.m.lt; rw [size_al]; omega) (fun q hq => (World.ownsRow.lt h.o2 q hq).1)
  exact ⟨hb, h.m.below hb (Nat.lt_succ_self _)⟩
theorem Gb.app1 (h : Gb w4 wr M a1 k1 c1 a2 k2 c2 P Q) (hg : (wr.alloc o).grownBy w' (Value.slice a1 k1 c1).ownBlock) (ho : w'.ownsRow (M + 1) 106 1 (.slice a' (k1 + 1) c') (k1 + 1) (fvL P k1 ++ [.float .f64 x]))
    (hat : (Value.slice a' (k1 + 1) c').ownBlock = (Value.slice a1 k1 c1).ownBlock ∨ (Value.slice a' (k1 + 1) c').ownBlock = some (wr.alloc o).heap.size) :
    Gb w4 (w'.setCell ⟨M, 0, none⟩ (.slice a' (k1 + 1) c')) M a' (k1 + 1) c' a2 k2 c2 (putF P k1 x) Q := by
  obtain ⟨hb, hm⟩ := h.mid1 hg
  have o1 := (own_putF ho).only ((Only.refl M w').set 0 (.slice a' (k1 + 1) c')) (Nat.lt_succ_self _)
  have o2 : OwnF w' (M + 1) (.slice a2 k2 c2) k2 Q := own_grow (h.o2.alloc o) hg (fun q hq e => h.ap q e hq)
  refine ⟨(h.b.trans (hb.mono (Nat.le_succ _))).setCell (p := ⟨M, 0, none⟩) (Nat.le_refl _) _, hm.set 0 (by simp) _, o1, o2.only ((Only.refl M w').set 0 _) (Nat.lt_succ_self _), fun g e1 e2 => ?_⟩
  rcases hat with e | e
  · exact h.ap g (e ▸ e1) e2
  · rw [e] at e1
    have := (World.ownsRow.lt h.o2 g e2).2
    cases e1
    rw [size_al] at this
    omega
theorem Gb.app2 (h : Gb w4 wr M a1 k1 c1 a2 k2 c2 P Q) (hg : (wr.alloc o).grownBy w' (Value.slice a2 k2 c2).ownBlock) (ho : w'.ownsRow (M + 1) 106 1 (.slice a' (k2 + 1) c') (k2 + 1) (fvL Q k2 ++ [.float .f64 x]))
    (hat : (Value.slice a' (k2 + 1) c').ownBlock = (Value.slice a2 k2 c2).ownBlock ∨ (Value.slice a' (k2 + 1) c').ownBlock = some (wr.alloc o).heap.size) :
    Gb w4 (w'.setCell ⟨M, 1, none⟩ (.slice a' (k2 + 1) c')) M a1 k1 c1 a' (k2 + 1) c' P (putF Q k2 x) := by
  obtain ⟨hb, hm⟩ := h.mid2 hg
  have o2 := (own_putF ho).only ((Only.refl M w').set 1 (.slice a' (k2 + 1) c')) (Nat.lt_succ_self _)
  have o1 : OwnF w' (M + 1) (.slice a1 k1 c1) k1 P := own_grow (h.o1.alloc o) hg (fun q hq e => h.ap q hq e)
  refine ⟨(h.b.trans (hb.mono (Nat.le_succ _))).setCell (p := ⟨M, 1, none⟩) (Nat.le_refl _) _, hm.set 1 (by simp) _, o1.only ((Only.refl M w').set 1 _) (Nat.lt_succ_self _), o2, fun g e1 e2 => ?_⟩
  rcases hat with e | e
  · exact h.ap g e1 (e ▸ e2)
  · rw [e] at e2
    have := (World.ownsRow.lt h.o1 g e1).2
    cases e2
    rw [size_al] at this
    omega
theorem Gb.start {w : World} (hm : Bx w M (bxL none 0 0 none 0 0)) : Gb w w M none 0 0 none 0 0 P Q :=
  ⟨Below.refl _ _, hm, World.ownsRow_nil _ _ _ _, World.ownsRow_nil _ _ _ _, fun g e => by cases e⟩
theorem Gb.congr {P' Q' : Nat → Nat} (h : Gb w4 wr M a1 k1 c1 a2 k2 c2 P Q) (e1 : ∀ i, i < k1 → P i = P' i) (e2 : ∀ i, i < k2 → Q i = Q' i) : Gb w4 wr M a1 k1 c1 a2 k2 c2 P' Q' := by
  have v1 : fvL P k1 = fvL P' k1 := List.map_congr_left fun i hi => by rw [e1 i (List.mem_range.1 hi)]
  have v2 : fvL Q k2 = fvL Q' k2 := List.map_congr_left fun i hi => by rw [e2 i (List.mem_range.1 hi)]
  exact ⟨h.b, h.m, by unfold OwnF; rw [← v1]; exact h.o1, by unfold OwnF; rw [← v2]; exact h.o2, h.ap⟩
/-- the two lists, as the call hands them out -/
theorem Gb.bp {lo : Nat} (h : Gb w4 wr M a1 k1 c1 a2 k2 c2 P Q) (hlo : lo ≤ M) : BP wr lo wr.heap.size a1 k1 P a2 k2 Q := by
  by_cases z1 : 0 < k1
  · by_cases z2 : 0 < k2
    · obtain ⟨g1, d1, e1, l1, p1⟩ := h.o1.some z1
      obtain ⟨g2, d2, e2, l2, p2⟩ := h.o2.some z2
      cases e1
      cases e2
      have hne : g1 ≠ g2 := fun e => h.ap g1 rfl (by rw [e]; rfl)
      exact ⟨g1, g1 + 1, g2, g2 + 1, by omega, p1.lt, by omega, p2.lt, by omega, fq_of p1 (Nat.le_refl _) (Nat.lt_succ_self _), fq_of p2 (Nat.le_refl _) (Nat.lt_succ_self _)⟩
    · have : k2 = 0 := by omega
      subst this
      have := h.m.lt
      exact ⟨M + 1, wr.heap.size, lo, lo, by omega, Nat.le_refl _, Nat.le_refl _, by omega, .inr (by omega), h.o1.fq, fq_none _ _ _ _ _⟩
  · have : k1 = 0 := by omega
    subst this
    have := h.m.lt
    exact ⟨lo, lo, M + 1, wr.heap.size, Nat.le_refl _, by omega, by omega, Nat.le_refl _, .inl (by omega), fq_none _ _ _ _ _, h.o2.fq⟩
end
theorem bp_far {w : World} {lo hi b : Nat} {a1 a2 : Option Addr} {n m : Nat} {F G : Nat → Nat} (h : BP w lo hi a1 n F a2 m G) (k : Nat) (v : Value) (hb : b < lo) : BP (w.setCell ⟨b, k, none⟩ v) lo hi a1 n F a2 m G := by
  obtain ⟨l1, h1, l2, h2, i1, i2, i3, i4, i5, j1, j2⟩ := h
  exact ⟨l1, h1, l2, h2, i1, i2, i3, i4, i5, fq_set j1 v (.inl (by omega)), fq_set j2 v (.inl (by omega))⟩
end Go.Proofs.Ytfciecoigfnnhaa
