/- What stands while a chart is drawn. -/
import Derived.Test.YtjefakfongehdaaRChEvD
import Derived.Test.YtjefakfongehdaaRChBase
import Derived.OneCell
namespace Go.Proofs.YtjefakfongehdaaR
open Go.RowKit

theorem owns_of {w w' : World} {base : Nat} {e : TypeId} {size : Nat} {v : Value} {k : Nat} {xs : List Value} (h : w.ownsRow base e size v k xs) (hb : ∀ x, x < w.heap.size → base ≤ x → w'.heap[x]? = w.heap[x]?) : w'.ownsRow base e size v k xs := by
  obtain ⟨hl, h⟩ := h
  refine ⟨hl, ?_⟩
  rcases h with h | ⟨g, cap, cur, h1, h2, h3, h4⟩
  · exact .inl h
  · exact .inr ⟨g, cap, cur, h1, h2, (hb g (Array.getElem?_eq_some_iff.1 h3).1 h2).trans h3, h4⟩
theorem owns_block {w : World} {base : Nat} {e : TypeId} {size : Nat} {a : Option Addr} {k c : Nat} {xs : List Value} (h : w.ownsRow base e size (.slice a k c) k xs) : (a = none ∧ k = 0 ∧ c = 0) ∨ ∃ B, a = some ⟨B, 0, none⟩ ∧ base ≤ B ∧ B < w.heap.size ∧ k ≤ c := by
  obtain ⟨-, h⟩ := h
  rcases h with ⟨h1, h2⟩ | ⟨g, cap, cur, h1, h2, h3, h4, -⟩
  · left
    injection h1 with e1 e2 e3
    exact ⟨e1, h2, e3⟩
  · right
    injection h1 with e1 e2 e3
    subst e3
    exact ⟨g, e1, h2, (Array.getElem?_eq_some_iff.1 h3).1, h4⟩
theorem vL_set (G : Nat → Int) (n i : Nat) (v : Int) : (vL G n).set i (.int .i64 v) = vL (put G i v) n := by
  refine List.ext_getElem? fun j => ?_
  rw [List.getElem?_set]
  by_cases e : i = j
  · subst e
    rw [if_pos rfl]
    by_cases hj : i < n
    · rw [vL_len, if_pos hj, vL_get hj]; simp [put]
    · rw [vL_len, if_neg hj]
      simp [vL, hj]
  · rw [if_neg e]
    by_cases hj : j < n
    · rw [vL_get hj, vL_get hj]
      unfold put
      rw [if_neg (Ne.symm e)]
    · simp [vL, hj]
/-- a chart's box, its two lists of their own, a cursor -/
structure Dch (w wx : World) (C : Nat) (a : Option Addr) (len cap n' : Nat) (a1 : Option Addr) (k c1 : Nat) (G : Nat → Int) (a2 : Option Addr) (j c2 : Nat) (H : Nat → Int) : Prop where
  cur : Cur wx C a len cap n'
  rb : Bx wx w.heap.size [.slice none 0 0, .slice none 0 0]
  bx : Bx wx (w.heap.size + 1) [.slice a1 k c1, .slice a2 j c2]
  o1 : wx.ownsRow (w.heap.size + 2) 67 2 (.slice a1 k c1) k (vL G (k * 2))
  o2 : wx.ownsRow (w.heap.size + 2) 69 3 (.slice a2 j c2) j (vL H (j * 3))
  ap : a1 = a2 → a1 = none
  t : Turns C (C + 1) w wx
  sz : w.heap.size + 2 ≤ wx.heap.size
section
variable {w wx wy w3 : World} {C : Nat} {a : Option Addr} {len cap n' n2 : Nat} {a1 : Option Addr} {k c1 : Nat} {G : Nat → Int} {a2 : Option Addr} {j c2 : Nat} {H : Nat → Int}
theorem Dch.step (h : Dch w wx C a len cap n' a1 k c1 G a2 j c2 H) (hc : Cur wy C a len cap n2) (o : Only C wx wy) (hC : C < w.heap.size) : Dch w wy C a len cap n2 a1 k c1 G a2 j c2 H :=
  ⟨hc, h.rb.turns (tn_only o) (.inr (by omega)), h.bx.turns (tn_only o) (.inr (by omega)), owns_of h.o1 (fun x _ hy => o.block x (by omega)), owns_of h.o2 (fun x _ hy => o.block x (by omega)), h.ap, h.t.trans (tn_only o), by rw [o.size]; exact h.sz⟩
theorem Dch.al (h : Dch w wx C a len cap n' a1 k c1 G a2 j c2 H) (b : Below wx.heap.size wx wy) : Dch w wy C a len cap n' a1 k c1 G a2 j c2 H :=
  ⟨h.cur.below b h.cur.lt, h.rb.on b, h.bx.on b, owns_of h.o1 (fun x hx _ => b.block x hx), owns_of h.o2 (fun x hx _ => b.block x hx), h.ap, h.t.trans (turns_of b), Nat.le_trans h.sz b.size⟩
/-- a store into another block from the base on -/
theorem Dch.tmp (h : Dch w wx C a len cap n' a1 k c1 G a2 j c2 H) {B i : Nat} {u : Value} (hB : w.heap.size + 2 ≤ B) (h1 : (Value.slice a1 k c1).ownBlock ≠ some B) (h2 : (Value.slice a2 j c2).ownBlock ≠ some B) (hC : C < w.heap.size) : Dch w (wx.setCell ⟨B, i, none⟩ u) C a len cap n' a1 k c1 G a2 j c2 H := by
  have hb : Below (w.heap.size + 2) wx (wx.setCell ⟨B, i, none⟩ u) := (Below.refl _ _).setCell (p := ⟨B, i, none⟩) hB u
  exact ⟨h.cur.below hb (by omega), h.rb.below hb (by omega), h.bx.below hb (by omega), ownsRow_setCell_other h.o1 h1 u, ownsRow_setCell_other h.o2 h2 u, h.ap, tn_below h.t hb (by omega), by rw [size_set]; exact h.sz⟩
theorem Dch.old1 (h : Dch w wx C a len cap n' a1 k c1 G a2 j c2 H) {B : Nat} (hB : wx.heap.size ≤ B) : (Value.slice a1 k c1).ownBlock ≠ some B := fun e => by
  have := (World.ownsRow.lt h.o1 B e).2
  omega
theorem Dch.old2 (h : Dch w wx C a len cap n' a1 k c1 G a2 j c2 H) {B : Nat} (hB : wx.heap.size ≤ B) : (Value.slice a2 j c2).ownBlock ≠ some B := fun e => by
  have := (World.ownsRow.lt h.o2 B e).2
  omega
theorem Dch.two (h : Dch w wx C a len cap n' a1 k c1 G a2 j c2 H) {B : Nat} (h1 : (Value.slice a1 k c1).ownBlock = some B) (h2 : (Value.slice a2 j c2).ownBlock = some B) : False := by
  rcases owns_block h.o1 with ⟨e1, _, _⟩ | ⟨B1, e1, _, _, _⟩
  · rw [e1] at h1; simp [Value.ownBlock] at h1
  · rcases owns_block h.o2 with ⟨e2, _, _⟩ | ⟨B2, e2, _, _, _⟩
    · rw [e2] at h2; simp [Value.ownBlock] at h2
    · rw [e1] at h1
      rw [e2] at h2
      simp [Value.ownBlock] at h1 h2
      have := h.ap (by rw [e1, e2, h1, h2])
      rw [e1] at this; cases this
theorem Dch.grow (h : Dch w wx C a len cap n' a1 k c1 G a2 j c2 H) {v : Value} (hv : ∀ q, v.ownBlock = some q → w.heap.size + 2 ≤ q) (hg : wx.grownBy w3 v.ownBlock) : Below (w.heap.size + 2) wx w3 :=
  ⟨hg.os, hg.tape, hg.output, hg.size, fun x hx => hg.block x (by have := h.sz; omega) fun e => by have := hv x e.symm; omega⟩
theorem Dch.app1 (h : Dch w wx C a len cap n' a1 k c1 G a2 j c2 H) {a' : Option Addr} {c' : Nat} {x y : Int} (hg : wx.grownBy w3 (Value.slice a1 k c1).ownBlock)
    (ho : w3.ownsRow (w.heap.size + 2) 67 2 (.slice a' (k + 1) c') (k + 1) (vL G (k * 2) ++ [.int .i64 x, .int .i64 y]))
    (hat : (Value.slice a' (k + 1) c').ownBlock = (Value.slice a1 k c1).ownBlock ∨ (Value.slice a' (k + 1) c').ownBlock = some wx.heap.size) (hC : C < w.heap.size) :
    Dch w (w3.setCell ⟨w.heap.size + 1, 0, none⟩ (.slice a' (k + 1) c')) C a len cap n' a' (k + 1) c' (put (put G (k * 2) x) (k * 2 + 1) y) a2 j c2 H := by
  have hb := h.grow (v := Value.slice a1 k c1) (fun q hq => (World.ownsRow.lt h.o1 q hq).1) hg
  have hb' : Below (w.heap.size + 1) wx (w3.setCell ⟨w.heap.size + 1, 0, none⟩ (.slice a' (k + 1) c')) := (hb.mono (show w.heap.size + 1 ≤ w.heap.size + 2 by omega)).setCell (p := ⟨w.heap.size + 1, 0, none⟩) (Nat.le_refl _) _
  refine ⟨h.cur.below hb' (by omega), h.rb.below hb' (by omega), (h.bx.below hb (by omega)).set 0 (by simp) _, ?_, ?_, fun e => ?_, tn_below h.t hb' (by omega), ?_⟩
  · refine ownsRow_setCell_below ?_ (by show w.heap.size + 1 < w.heap.size + 2; omega) _
    rw [show (k + 1) * 2 = k * 2 + 1 + 1 by omega, vL_put, vL_put, List.append_assoc]
    exact ho
  · refine ownsRow_setCell_below ?_ (by show w.heap.size + 1 < w.heap.size + 2; omega) _
    refine World.ownsRow.kept h.o2 hg ?_
    cases h2 : (Value.slice a2 j c2).ownBlock with
    | none => exact .inl rfl
    | some B => exact .inr fun e => h.two e.symm h2
  · rcases owns_block ho with ⟨e1, e2, _⟩ | ⟨B', e1, _, _, _⟩
    · omega
    · exfalso
      have e3 : (Value.slice a' (k + 1) c').ownBlock = some B' := by rw [e1]; simp [Value.ownBlock]
      have e4 : (Value.slice a2 j c2).ownBlock = some B' := by rw [← e, e1]; simp [Value.ownBlock]
      rw [e3] at hat
      rcases hat with h9 | h9
      · exact h.two h9.symm e4
      · exact h.old2 (Nat.le_refl _) (e4.trans h9)
  · rw [size_set]; exact Nat.le_trans h.sz hb.size
theorem Dch.app2 (h : Dch w wx C a len cap n' a1 k c1 G a2 j c2 H) {a' : Option Addr} {c' : Nat} {x y z : Int} (hg : wx.grownBy w3 (Value.slice a2 j c2).ownBlock)
    (ho : w3.ownsRow (w.heap.size + 2) 69 3 (.slice a' (j + 1) c') (j + 1) (vL H (j * 3) ++ [.int .i64 x, .int .i64 y, .int .i64 z]))
    (hat : (Value.slice a' (j + 1) c').ownBlock = (Value.slice a2 j c2).ownBlock ∨ (Value.slice a' (j + 1) c').ownBlock = some wx.heap.size) (hC : C < w.heap.size) :
    Dch w (w3.setCell ⟨w.heap.size + 1, 1, none⟩ (.slice a' (j + 1) c')) C a len cap n' a1 k c1 G a' (j + 1) c' (put (put (put H (j * 3) x) (j * 3 + 1) y) (j * 3 + 2) z) := by
  have hb := h.grow (v := Value.slice a2 j c2) (fun q hq => (World.ownsRow.lt h.o2 q hq).1) hg
  have hb' : Below (w.heap.size + 1) wx (w3.setCell ⟨w.heap.size + 1, 1, none⟩ (.slice a' (j + 1) c')) := (hb.mono (show w.heap.size + 1 ≤ w.heap.size + 2 by omega)).setCell (p := ⟨w.heap.size + 1, 1, none⟩) (Nat.le_refl _) _
  refine ⟨h.cur.below hb' (by omega), h.rb.below hb' (by omega), (h.bx.below hb (by omega)).set 1 (by simp) _, ?_, ?_, fun e => ?_, tn_below h.t hb' (by omega), ?_⟩
  · refine ownsRow_setCell_below ?_ (by show w.heap.size + 1 < w.heap.size + 2; omega) _
    refine World.ownsRow.kept h.o1 hg ?_
    cases h2 : (Value.slice a1 k c1).ownBlock with
    | none => exact .inl rfl
    | some B => exact .inr fun e => h.two h2 e.symm
  · refine ownsRow_setCell_below ?_ (by show w.heap.size + 1 < w.heap.size + 2; omega) _
    rw [show (j + 1) * 3 = j * 3 + 1 + 1 + 1 by omega, show j * 3 + 2 = j * 3 + 1 + 1 by omega, vL_put, vL_put, vL_put, List.append_assoc, List.append_assoc]
    exact ho
  · rcases owns_block ho with ⟨e1, e2, _⟩ | ⟨B', e1, _, _, _⟩
    · omega
    · exfalso
      have e3 : (Value.slice a' (j + 1) c').ownBlock = some B' := by rw [e1]; simp [Value.ownBlock]
      have e4 : (Value.slice a1 k c1).ownBlock = some B' := by rw [e, e1]; simp [Value.ownBlock]
      rw [e3] at hat
      rcases hat with h9 | h9
      · exact h.two e4 h9.symm
      · exact h.old1 (Nat.le_refl _) (e4.trans h9)
  · rw [size_set]; exact Nat.le_trans h.sz hb.size
theorem Dch.at1 (h : Dch w wx C a len cap n' a1 k c1 G a2 j c2 H) (hk : 0 < k) : ∃ B, a1 = some ⟨B, 0, none⟩ ∧ B < wx.heap.size ∧ (∀ i, i < k * 2 → wx.cell? ⟨B, i, none⟩ = some (.int .i64 (G i))) ∧ ∀ i, wx.frozen? ⟨B, i, none⟩ = false := by
  rcases owns_block h.o1 with ⟨_, e, _⟩ | ⟨B, e, h1, h2, h3⟩
  · omega
  · subst e
    exact ⟨B, rfl, h2, fun i hi => by rw [World.ownsRow.cellAt h.o1 i hi]; exact vL_get hi, fun i => World.ownsRow.frozenAt h.o1 i⟩
theorem Dch.put1 {B i : Nat} {v : Int} (h : Dch w wx C a len cap n' (some ⟨B, 0, none⟩) k c1 G a2 j c2 H) (hC : C < w.heap.size) : Dch w (wx.setCell ⟨B, i, none⟩ (.int .i64 v)) C a len cap n' (some ⟨B, 0, none⟩) k c1 (put G i v) a2 j c2 H := by
  have hB : w.heap.size + 2 ≤ B := (World.ownsRow.lt h.o1 B (by simp [Value.ownBlock])).1
  have hb : Below (w.heap.size + 2) wx (wx.setCell ⟨B, i, none⟩ (.int .i64 v)) := (Below.refl _ _).setCell (p := ⟨B, i, none⟩) hB _
  refine ⟨h.cur.below hb (by omega), h.rb.below hb (by omega), h.bx.below hb (by omega), ?_, ownsRow_setCell_other h.o2 (fun e => h.two (by simp [Value.ownBlock]) e) _, h.ap, tn_below h.t hb (by omega), by rw [size_set]; exact h.sz⟩
  rw [← vL_set]
  exact (World.ownsRow.stored h.o1 i _).1
end
/-- the answer: some chart -/
def AnsCh (w w' : World) (e : Ending) (C : Nat) (a : Option Addr) (len cap n : Nat) : Prop := ∃ (a1 : Option Addr) (k c1 : Nat) (G : Nat → Int) (a2 : Option Addr) (j c2 : Nat) (H : Nat → Int) (n' : Nat), e = .returned (chv a1 k c1 a2 j c2) ∧ (k ≤ c1 ∧ k ≤ 1000 ∧ j ≤ 1000) ∧ LQ w' w.heap.size w'.heap.size a1 (k * 2) G ∧ LQ w' w.heap.size w'.heap.size a2 (j * 3) H ∧ n' ≤ n + 1000 ∧ Cur w' C a len cap n' ∧ Turns C (C + 1) w w'
theorem Dch.ans {w wx : World} {C : Nat} {a : Option Addr} {len cap n n' : Nat} {a1 : Option Addr} {k c1 : Nat} {G : Nat → Int} {a2 : Option Addr} {j c2 : Nat} {H : Nat → Int} (h : Dch w wx C a len cap n' a1 k c1 G a2 j c2 H) (hn : n' ≤ n + 1000) (hk : k ≤ 1000) (hj : j ≤ 1000) (hC : C < w.heap.size) (u v : Value) :
    AnsCh w ((wx.setCell ⟨w.heap.size, 0, none⟩ u).setCell ⟨w.heap.size, 1, none⟩ v) (.returned (chv a1 k c1 a2 j c2)) C a len cap n := by
  have hb : Below w.heap.size wx ((wx.setCell ⟨w.heap.size, 0, none⟩ u).setCell ⟨w.heap.size, 1, none⟩ v) := ((Below.refl _ _).setCell (p := ⟨w.heap.size, 0, none⟩) (Nat.le_refl _) u).setCell (p := ⟨w.heap.size, 1, none⟩) (Nat.le_refl _) v
  have hc : k ≤ c1 := by rcases owns_block h.o1 with ⟨_, e, _⟩ | ⟨B, e, h1, h2, h3⟩ <;> omega
  have h1 : LQ wx (w.heap.size + 2) wx.heap.size a1 (k * 2) G := fun h0 => by
    rcases owns_block h.o1 with ⟨_, e, _⟩ | ⟨B, e, h1, h2, h3⟩
    · omega
    · subst e
      exact ⟨B, rfl, h1, h2, h2, fun i hi => by rw [World.ownsRow.cellAt h.o1 i hi]; exact vL_get hi, fun i => World.ownsRow.frozenAt h.o1 i⟩
  have h2 : LQ wx (w.heap.size + 2) wx.heap.size a2 (j * 3) H := fun h0 => by
    rcases owns_block h.o2 with ⟨_, e, _⟩ | ⟨B, e, h1, h2, h3⟩
    · omega
    · subst e
      exact ⟨B, rfl, h1, h2, h2, fun i hi => by rw [World.ownsRow.cellAt h.o2 i hi]; exact vL_get hi, fun i => World.ownsRow.frozenAt h.o2 i⟩
  have m1 := (lq_set (lq_set h1 (b := w.heap.size) (k := 0) u (.inl (by omega))) (b := w.heap.size) (k := 1) v (.inl (by omega))).wide (lo' := w.heap.size) (hi' := wx.heap.size) (by omega) (Nat.le_refl _)
  have m2 := (lq_set (lq_set h2 (b := w.heap.size) (k := 0) u (.inl (by omega))) (b := w.heap.size) (k := 1) v (.inl (by omega))).wide (lo' := w.heap.size) (hi' := wx.heap.size) (by omega) (Nat.le_refl _)
  exact ⟨a1, k, c1, G, a2, j, c2, H, n', rfl, ⟨hc, hk, hj⟩, by simpa using m1, by simpa using m2, hn, h.cur.below hb hC, tn_below h.t hb (Nat.le_refl _)⟩
theorem infoSt : (Try.prog.info? 67).map (fun i => (i.zero, i.size, i.bytes)) = some (some (.agg #[.int .i64 0, .int .i64 0]), 2, 16) := by kernel_rfl
theorem infoAw : (Try.prog.info? 69).map (fun i => (i.zero, i.size, i.bytes)) = some (some (.agg #[.int .i64 0, .int .i64 0, .int .i64 0]), 3, 24) := by kernel_rfl
theorem cell_bx {w : World} (xs : List Value) (t : TypeId) : ∀ j u, xs[j]? = some u → (w.alloc (.cells xs.toArray t)).cell? ((⟨w.heap.size, 0, none⟩ : Addr).add j) = some u := by
  intro j u h
  have b := bx_new (w := w) xs t rfl
  have hj : j < xs.length := (List.getElem?_eq_some_iff.1 h).1
  have := b.c j hj
  rw [show (⟨w.heap.size, 0, none⟩ : Addr).add j = ⟨w.heap.size, j, none⟩ by unfold Addr.add; by_cases e : j = 0 <;> simp [e]]
  rw [this]
  exact h
end Go.Proofs.YtjefakfongehdaaR
