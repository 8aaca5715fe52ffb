/- A drawn board, as it is told. -/
import Derived.Test.YtapodfkoknmhdaaDoorQWhDrS
import Derived.Test.YtapodfkoknmhdaaDoorQWhBd
namespace Go.Proofs.YtapodfkoknmhdaaDoor
open Go.RowKit
/-- a slice's address lies from lo on -/
def From (lo : Nat) (x : Option Addr) : Prop := ∀ q, x = some q → lo ≤ q.block
/-- a board whose lists lie from lo on -/
def BF (w : World) (lo : Nat) (a : Option Addr) (n : Nat) (f : Nat → ByteArray) (b : Option Addr) (m : Nat) (g : Nat → Bool) (x : Option Addr) (p : Nat) (K : Nat → Nat) (R : Nat → Nat → Int) : Prop :=
  SL w a n f ∧ BoL w b m g ∧ (∃ A C, LL w x p A K C R ∧ ∀ i, i < p → From lo (A i)) ∧ From lo a ∧ From lo b ∧ From lo x
theorem BF.bd {w : World} {lo : Nat} {a : Option Addr} {n : Nat} {f : Nat → ByteArray} {b : Option Addr} {m : Nat} {g : Nat → Bool} {x : Option Addr} {p : Nat} {K : Nat → Nat} {R : Nat → Nat → Int} (h : BF w lo a n f b m g x p K R) : BD w a n f b m g x p K R := by
  obtain ⟨h1, h2, ⟨A, C, h3, _⟩, _⟩ := h
  exact ⟨h1, h2, A, C, h3⟩
section
variable {w w' : World} {lo C : Nat} {a : Option Addr} {n : Nat} {f : Nat → ByteArray} {b : Option Addr} {m : Nat} {g : Nat → Bool} {x : Option Addr} {p : Nat} {K : Nat → Nat} {R : Nat → Nat → Int}
theorem BF.same (h : BF w lo a n f b m g x p K R) (hs : w.heap.size ≤ w'.heap.size) (hb : ∀ k, lo ≤ k → k < w.heap.size → w'.heap[k]? = w.heap[k]?) : BF w' lo a n f b m g x p K R := by
  obtain ⟨h1, h2, ⟨A, D, h3, h4⟩, f1, f2, f3⟩ := h
  refine ⟨h1.same hs fun q hq hl => hb _ (f1 q hq) hl, fun h0 => ?_, ⟨A, D, ⟨fun h0 => ?_, fun i hi h0 => ?_⟩, h4⟩, f1, f2, f3⟩
  · obtain ⟨k, o, e, hl, hc⟩ := h2 h0
    have := hb k (f2 _ e) hl
    exact ⟨k, o, e, Nat.lt_of_lt_of_le hl hs, fun i hi => (cell_same this _).trans (hc i hi)⟩
  · obtain ⟨k, o, e, hl, hc⟩ := h3.out h0
    have := hb k (f3 _ e) hl
    exact ⟨k, o, e, Nat.lt_of_lt_of_le hl hs, fun i hi => (cell_same this _).trans (hc i hi)⟩
  · obtain ⟨k, o, e, hl, hc⟩ := h3.row i hi h0
    have := hb k (h4 i hi _ e) hl
    exact ⟨k, o, e, Nat.lt_of_lt_of_le hl hs, fun j hj => (cell_same this _).trans (hc j hj)⟩
theorem BF.turns (h : BF w lo a n f b m g x p K R) (k : Turns C (C + 1) w w') (hC : C < lo) : BF w' lo a n f b m g x p K R :=
  h.same k.size fun q hq hl => k.block q hl (by omega)
theorem BF.far {B k : Nat} (h : BF w lo a n f b m g x p K R) (hB : B < lo) (v : Value) : BF (w.setCell ⟨B, k, none⟩ v) lo a n f b m g x p K R :=
  h.same (by simp) fun q hq _ => ((Only.refl B w).set k v).block q (by omega)
end
theorem owns_slice {w : World} {base n : Nat} {e : TypeId} {v : Value} {xs : List Value} (h : w.ownsRow base e 1 v n xs) : ∃ x c, v = .slice x n c ∧ From base x ∧ n ≤ c ∧ (0 < n → ∃ k, x = some ⟨k, 0, none⟩ ∧ k < w.heap.size ∧ ∀ i, i < n → w.cell? ⟨k, 0 + i, none⟩ = xs[i]?) := by
  have h' := h
  obtain ⟨hl, ⟨rfl, rfl⟩ | ⟨g, cap, cur, rfl, h2, h3, h4, _⟩⟩ := h
  · exact ⟨none, 0, rfl, (fun q hq => by cases hq), Nat.le_refl _, fun h0 => absurd h0 (Nat.lt_irrefl _)⟩
  · refine ⟨_, cap, rfl, (fun q hq => by cases hq; exact h2), h4, fun _ => ⟨g, rfl, (Array.getElem?_eq_some_iff.1 h3).1, fun i hi => ?_⟩⟩
    rw [Nat.zero_add, World.ownsRow.cellAt h' i (by omega)]
/-- what stands is a board -/
theorem Bst.bf {w wx : World} {C B : Nat} {a : Option Addr} {len cap n' : Nat} {v1 v2 v3 : Value} {l1 : List ByteArray} {l2 : List Bool} {l3 : List Value} {K : Nat → Nat} {F : Nat → Nat → Int} (h : Bst w wx C B a len cap n' v1 v2 v3 l1 l2 l3 K F) :
    ∃ x1 c1 x2 c2 x3 c3, v1 = .slice x1 l1.length c1 ∧ v2 = .slice x2 l2.length c2 ∧ v3 = .slice x3 l3.length c3 ∧ BF wx (B + 1) x1 l1.length (fun i => l1[i]!) x2 l2.length (fun i => l2[i]!) x3 l3.length K F := by
  obtain ⟨x1, c1, e1, f1, -, h1⟩ := owns_slice h.o1
  obtain ⟨x2, c2, e2, f2, -, h2⟩ := owns_slice h.o2
  obtain ⟨x3, c3, e3, f3, -, h3⟩ := owns_slice h.o3
  have hrow : ∀ i, ∃ A D, i < l3.length → l3[i]? = some (.slice A (K i) D) ∧ IL wx A (K i) (F i) ∧ From (B + 1) A := fun i => by
    by_cases hi : i < l3.length
    · obtain ⟨u, e, hu⟩ := h.rows i hi
      obtain ⟨A, D, rfl⟩ := hu.shape
      refine ⟨A, D, fun _ => ⟨e, hu.il, fun q hq => ?_⟩⟩
      subst hq
      exact (World.ownsRow.lt hu q.block rfl).1
    · exact ⟨none, 0, fun h9 => absurd h9 hi⟩
  refine ⟨x1, c1, x2, c2, x3, c3, e1, e2, e3, fun h0 => ?_, fun h0 => ?_, ⟨fun i => (hrow i).choose, fun i => (hrow i).choose_spec.choose, ⟨fun h0 => ?_, fun i hi => ((hrow i).choose_spec.choose_spec hi).2.1⟩, fun i hi => ((hrow i).choose_spec.choose_spec hi).2.2⟩, f1, f2, f3⟩
  · obtain ⟨k, e, hl, hc⟩ := h1 h0
    exact ⟨k, 0, e, hl, fun i hi => by rw [hc i hi]; simp [hi]⟩
  · obtain ⟨k, e, hl, hc⟩ := h2 h0
    exact ⟨k, 0, e, hl, fun i hi => by rw [hc i hi]; simp [hi]⟩
  · obtain ⟨k, e, hl, hc⟩ := h3 h0
    exact ⟨k, 0, e, hl, fun i hi => by rw [hc i hi]; exact ((hrow i).choose_spec.choose_spec hi).1⟩
end Go.Proofs.YtapodfkoknmhdaaDoor

/- A board that is drawn: stores into its own lists, and a box that stands beside it. -/
namespace Go.Proofs.YtapodfkoknmhdaaDoor
open Go.RowKit
section
variable {w wx wy : World} {C B : Nat} {a : Option Addr} {len cap n' : Nat} {v1 v2 v3 : Value} {l1 : List ByteArray} {l2 : List Bool} {l3 : List Value} {K : Nat → Nat} {F : Nat → Nat → Int}
theorem owns_other {base sz n g k : Nat} {e : TypeId} {v : Value} {xs : List Value} (h : wx.ownsRow base e sz v n xs) (hne : v.ownBlock ≠ some g) (x : Value) : (wx.setCell ⟨g, k, none⟩ x).ownsRow base e sz v n xs :=
  owns_same h fun q hq => ((Only.refl g wx).set k x).block q (fun e9 => hne (by rw [hq, e9]))
/-- the first name is another one -/
theorem Bst.set1 (h : Bst w wx C B a len cap n' v1 v2 v3 l1 l2 l3 K F) (hl : 0 < l1.length) (s : ByteArray) (hs : s.size ≤ 1000) :
    ∃ g c, v1 = .slice (some ⟨g, 0, none⟩) l1.length c ∧ (∃ u, wx.cell? ⟨g, 0, none⟩ = some u) ∧ wx.frozen? ⟨g, 0, none⟩ = false ∧ g < wx.heap.size ∧ B < g ∧ Bst w (wx.setCell ⟨g, 0, none⟩ (.string s)) C B a len cap n' v1 v2 v3 (l1.set 0 s) l2 l3 K F := by
  have h1 := h.o1
  obtain ⟨_, ⟨_, h2⟩ | ⟨g, c, cur, e1, hb, hg, _⟩⟩ := h1
  · omega
  · subst e1
    have hst := World.ownsRow.stored h.o1 0 (.string s)
    have hcb := h.cb
    have hsz := h.t.size
    have hbel : Below (B + 1) wx (wx.setCell ⟨g, 0, none⟩ (.string s)) := (Below.refl _ _).setCell (p := ⟨g, 0, none⟩) hb (.string s)
    have ho : (Value.slice (some ⟨g, 0, none⟩) l1.length c).ownBlock = some g := rfl
    refine ⟨g, c, rfl, ⟨_, (World.ownsRow.cellAt h.o1 0 (by omega)).trans (by simp [hl]; rfl)⟩, World.ownsRow.frozenAt h.o1 0, (Array.getElem?_eq_some_iff.1 hg).1, hb, h.cur.below hbel (by omega), h.box.below hbel (by omega), hcb, ?_, owns_other h.o2 (fun e => h.d12 g ho e) _, owns_other h.o3 (fun e => h.d13 g ho e) _, fun i hi => ?_, h.d12, h.d13, h.d23, h.dr, ?_, tn_below h.t (hbel.mono (by omega)) (Nat.le_refl _)⟩
    · rw [List.length_set]
      have := hst.1
      rw [List.map_set]
      exact this
    · obtain ⟨u, e, hu⟩ := h.rows i hi
      exact ⟨u, e, owns_other hu (fun e9 => (h.dr i u g e e9).1 ho) _⟩
    · intro s' hs'
      rcases List.mem_or_eq_of_mem_set hs' with h9 | h9
      · exact h.sm s' h9
      · rw [h9]; exact hs
end
end Go.Proofs.YtapodfkoknmhdaaDoor

/- What a drawn board is told as. -/
namespace Go.Proofs.YtapodfkoknmhdaaDoor
open Go.RowKit
/-- some board was drawn -/
def AnsBo (w w' : World) (e : Ending) (C : Nat) (a : Option Addr) (len cap n : Nat) : Prop := ∃ (x1 : Option Addr) (k1 c1 : Nat) (x2 : Option Addr) (k2 c2 : Nat) (x3 : Option Addr) (k3 c3 : Nat) (f : Nat → ByteArray) (g : Nat → Bool) (K : Nat → Nat) (R : Nat → Nat → Int) (n' : Nat), e = .returned (bdv x1 k1 c1 x2 k2 c2 x3 k3 c3) ∧ (k1 ≤ 100 ∧ k2 ≤ 100 ∧ k3 ≤ 100) ∧ ((∀ i, i < k1 → (f i).size ≤ 1000) ∧ ∀ i, i < k3 → K i ≤ 100) ∧ BF w' w.heap.size x1 k1 f x2 k2 g x3 k3 K R ∧ n' ≤ n + 5000 ∧ Cur w' C a len cap n' ∧ Turns C (C + 1) w w'
theorem BF.mono {w : World} {lo lo' : Nat} {a : Option Addr} {n : Nat} {f : Nat → ByteArray} {b : Option Addr} {m : Nat} {g : Nat → Bool} {x : Option Addr} {p : Nat} {K : Nat → Nat} {R : Nat → Nat → Int} (h : BF w lo a n f b m g x p K R) (hl : lo' ≤ lo) : BF w lo' a n f b m g x p K R := by
  obtain ⟨h1, h2, ⟨A, D, h3, h4⟩, f1, f2, f3⟩ := h
  exact ⟨h1, h2, ⟨A, D, h3, fun i hi q hq => Nat.le_trans hl (h4 i hi q hq)⟩, fun q hq => Nat.le_trans hl (f1 q hq), fun q hq => Nat.le_trans hl (f2 q hq), fun q hq => Nat.le_trans hl (f3 q hq)⟩
end Go.Proofs.YtapodfkoknmhdaaDoor
