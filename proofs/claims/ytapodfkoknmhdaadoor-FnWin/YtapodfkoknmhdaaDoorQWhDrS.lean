/- Three lists of a call's own that grow in a struct, while a cursor is drawn from. -/
import Derived.Test.YtapodfkoknmhdaaDoorQWhDrW
namespace Go.Proofs.YtapodfkoknmhdaaDoor
open Go.RowKit
section
variable {w w' wx wy : World} {base sz n C B : Nat} {e : TypeId} {v v' u : Value} {xs : List Value} {row : Option Nat} {o : Obj}
theorem owns_same (h : w.ownsRow base e sz v n xs) (hb : ∀ g, v.ownBlock = some g → w'.heap[g]? = w.heap[g]?) : w'.ownsRow base e sz v n xs := by
  obtain ⟨hl, h | ⟨g, cap, cur, h1, h2, h3, h4⟩⟩ := h
  · exact ⟨hl, .inl h⟩
  · exact ⟨hl, .inr ⟨g, cap, cur, h1, h2, (hb g (by rw [h1]; rfl)).trans h3, h4⟩⟩
/-- one list stays as another grows -/
theorem owns_kept (h : w.ownsRow base e sz v n xs) (hg : (w.alloc o).grownBy w' row) (hne : ∀ g, v.ownBlock = some g → row ≠ some g) : w'.ownsRow base e sz v n xs :=
  owns_same h fun g hgv => by
    have hlt := (World.ownsRow.lt h g hgv).2
    rw [hg.block g (by simp; omega) (fun e9 => hne g hgv e9.symm)]
    exact ((Below.refl w.heap.size w).alloc (Nat.le_refl _) o).block g hlt
theorem owns_turns (h : w.ownsRow base e sz v n xs) (k : Turns C (C + 1) w w') (hC : C < base) : w'.ownsRow base e sz v n xs :=
  owns_same h fun g hgv => by
    have := World.ownsRow.lt h g hgv
    exact k.block g this.2 (by omega)
theorem owns_set {k : Nat} (h : w.ownsRow base e sz v n xs) (hB : B < base) (x : Value) : (w.setCell ⟨B, k, none⟩ x).ownsRow base e sz v n xs :=
  owns_same h fun g hgv => by
    have := World.ownsRow.lt h g hgv
    exact ((Only.refl B w).set k x).block g (by omega)
/-- the block behind an append is no other list's -/
theorem apart_app (hu : ∀ g, u.ownBlock = some g → g < w.heap.size) (hne : ∀ g, u.ownBlock = some g → v.ownBlock ≠ some g) (hat : v'.ownBlock = v.ownBlock ∨ v'.ownBlock = some (w.alloc o).heap.size) : ∀ g, u.ownBlock = some g → v'.ownBlock ≠ some g := fun g hg e => by
  rcases hat with h | h
  · exact hne g hg (h.symm.trans e)
  · have := hu g hg
    rw [h] at e
    have := Option.some.inj e
    simp at this
    omega
end
/-- what stands while a board is drawn -/
structure Bst (w wx : World) (C B : Nat) (a : Option Addr) (len cap n' : Nat) (v1 v2 v3 : Value) (l1 : List ByteArray) (l2 : List Bool) (l3 : List Value) (K : Nat → Nat) (F : Nat → Nat → Int) : Prop where
  cur : Cur wx C a len cap n'
  box : Bx wx B [v1, v2, v3]
  cb : C < w.heap.size ∧ w.heap.size ≤ B
  o1 : wx.ownsRow (B + 1) 9 1 v1 l1.length (l1.map Value.string)
  o2 : wx.ownsRow (B + 1) 4 1 v2 l2.length (l2.map Value.bool)
  o3 : wx.ownsRow (B + 1) 41 1 v3 l3.length l3
  rows : ∀ i, i < l3.length → ∃ u, l3[i]? = some u ∧ Own wx (B + 1) u (K i) (F i)
  d12 : ∀ g, v1.ownBlock = some g → v2.ownBlock ≠ some g
  d13 : ∀ g, v1.ownBlock = some g → v3.ownBlock ≠ some g
  d23 : ∀ g, v2.ownBlock = some g → v3.ownBlock ≠ some g
  dr : ∀ (i : Nat) (u : Value) (g : Nat), l3[i]? = some u → u.ownBlock = some g → v1.ownBlock ≠ some g ∧ v2.ownBlock ≠ some g ∧ v3.ownBlock ≠ some g
  sm : ∀ s ∈ l1, s.size ≤ 1000
  t : Turns C (C + 1) w wx
section
variable {w wx wy : World} {C B : Nat} {a : Option Addr} {len cap n' n2 : Nat} {v1 v2 v3 v' : Value} {l1 : List ByteArray} {l2 : List Bool} {l3 : List Value} {K : Nat → Nat} {F : Nat → Nat → Int}
/-- the cursor goes on -/
theorem Bst.step (h : Bst w wx C B a len cap n' v1 v2 v3 l1 l2 l3 K F) (hc : Cur wy C a len cap n2) (k : Turns C (C + 1) wx wy) : Bst w wy C B a len cap n2 v1 v2 v3 l1 l2 l3 K F :=
  have hB : C < B + 1 := by have := h.cb; omega
  ⟨hc, h.box.turns k (.inr (by have := h.cb; omega)), h.cb, owns_turns h.o1 k hB, owns_turns h.o2 k hB, owns_turns h.o3 k hB, fun i hi => by
    obtain ⟨u, e, hu⟩ := h.rows i hi
    exact ⟨u, e, owns_turns hu k hB⟩, h.d12, h.d13, h.d23, h.dr, h.sm, h.t.trans k⟩
/-- a name more, behind the store -/
theorem Bst.app1 {s : ByteArray} {o : Obj} (h : Bst w wx C B a len cap n' v1 v2 v3 l1 l2 l3 K F) (hg : (wx.alloc o).grownBy wy v1.ownBlock) (ho : wy.ownsRow (B + 1) 9 1 v' (l1.length + 1) (l1.map Value.string ++ [.string s])) (hat : v'.ownBlock = v1.ownBlock ∨ v'.ownBlock = some (wx.alloc o).heap.size) (hs : s.size ≤ 1000) :
    Bst w (wy.setCell ⟨B, 0, none⟩ v') C B a len cap n' v' v2 v3 (l1 ++ [s]) l2 l3 K F := by
  have hcb := h.cb
  have hsz := h.t.size
  have hbx := h.box.lt
  have hbelow : Below (B + 1) wx wy := ((Below.refl (B + 1) wx).alloc (by omega) o).grown hg (by simp; omega) (fun q hq => (World.ownsRow.lt h.o1 q hq).1)
  have hbx2 : Bx (wy.setCell ⟨B, 0, none⟩ v') B [v', v2, v3] := (h.box.below hbelow (by omega)).set 0 (by simp) v'
  have hset : Below w.heap.size wy (wy.setCell ⟨B, 0, none⟩ v') := (Below.refl _ _).setCell (p := ⟨B, 0, none⟩) hcb.2 v'
  have hlt2 : ∀ g, v2.ownBlock = some g → g < wx.heap.size := fun g hg9 => (World.ownsRow.lt h.o2 g hg9).2
  have hlt3 : ∀ g, v3.ownBlock = some g → g < wx.heap.size := fun g hg9 => (World.ownsRow.lt h.o3 g hg9).2
  refine ⟨(h.cur.below hbelow (by omega)).below hset (by omega), hbx2, hcb, ?_, owns_set (owns_kept h.o2 hg fun g hg9 e9 => h.d12 g e9 hg9) (by omega) v', owns_set (owns_kept h.o3 hg fun g hg9 e9 => h.d13 g e9 hg9) (by omega) v', fun i hi => ?_, ?_, ?_, h.d23, ?_, ?_, ?_⟩
  · rw [List.length_append, List.map_append]
    exact owns_set ho (by omega) v'
  · obtain ⟨u, e, hu⟩ := h.rows i hi
    exact ⟨u, e, owns_set (owns_kept hu hg fun g hg9 => (h.dr i u g e hg9).1) (by omega) v'⟩
  · intro g hg9 e9
    exact apart_app hlt2 (fun g h1 h2 => h.d12 g h2 h1) hat g e9 hg9
  · intro g hg9 e9
    exact apart_app hlt3 (fun g h1 h2 => h.d13 g h2 h1) hat g e9 hg9
  · intro i u g e hg9
    have hi : i < l3.length := (List.getElem?_eq_some_iff.1 e).1
    obtain ⟨u', e', hu⟩ := h.rows i hi
    rw [e] at e'
    cases e'
    exact ⟨apart_app (fun g h1 => (World.ownsRow.lt hu g h1).2) (fun g h1 => (h.dr i u g e h1).1) hat g hg9, (h.dr i u g e hg9).2⟩
  · intro s' hs'
    rcases List.mem_append.1 hs' with h9 | h9
    · exact h.sm s' h9
    · simp at h9; subst h9; exact hs
  · exact tn_below (tn_below h.t (hbelow.mono (by omega)) (Nat.le_refl _)) hset (Nat.le_refl _)
/-- a bool more, behind the store -/
theorem Bst.app2 {s : Bool} {o : Obj} (h : Bst w wx C B a len cap n' v1 v2 v3 l1 l2 l3 K F) (hg : (wx.alloc o).grownBy wy v2.ownBlock) (ho : wy.ownsRow (B + 1) 4 1 v' (l2.length + 1) (l2.map Value.bool ++ [.bool s])) (hat : v'.ownBlock = v2.ownBlock ∨ v'.ownBlock = some (wx.alloc o).heap.size) :
    Bst w (wy.setCell ⟨B, 1, none⟩ v') C B a len cap n' v1 v' v3 l1 (l2 ++ [s]) l3 K F := by
  have hcb := h.cb
  have hsz := h.t.size
  have hbx := h.box.lt
  have hbelow : Below (B + 1) wx wy := ((Below.refl (B + 1) wx).alloc (by omega) o).grown hg (by simp; omega) (fun q hq => (World.ownsRow.lt h.o2 q hq).1)
  have hbx2 : Bx (wy.setCell ⟨B, 1, none⟩ v') B [v1, v', v3] := (h.box.below hbelow (by omega)).set 1 (by simp) v'
  have hset : Below w.heap.size wy (wy.setCell ⟨B, 1, none⟩ v') := (Below.refl _ _).setCell (p := ⟨B, 1, none⟩) hcb.2 v'
  have hlt1 : ∀ g, v1.ownBlock = some g → g < wx.heap.size := fun g hg9 => (World.ownsRow.lt h.o1 g hg9).2
  have hlt3 : ∀ g, v3.ownBlock = some g → g < wx.heap.size := fun g hg9 => (World.ownsRow.lt h.o3 g hg9).2
  refine ⟨(h.cur.below hbelow (by omega)).below hset (by omega), hbx2, hcb, owns_set (owns_kept h.o1 hg fun g hg9 => h.d12 g hg9) (by omega) v', ?_, owns_set (owns_kept h.o3 hg fun g hg9 e9 => h.d23 g e9 hg9) (by omega) v', fun i hi => ?_, ?_, h.d13, ?_, ?_, h.sm, ?_⟩
  · rw [List.length_append, List.map_append]
    exact owns_set ho (by omega) v'
  · obtain ⟨u, e, hu⟩ := h.rows i hi
    exact ⟨u, e, owns_set (owns_kept hu hg fun g hg9 => (h.dr i u g e hg9).2.1) (by omega) v'⟩
  · exact apart_app hlt1 h.d12 hat
  · intro g hg9 e9
    exact apart_app hlt3 (fun g h1 h2 => h.d23 g h2 h1) hat g e9 hg9
  · intro i u g e hg9
    have hi : i < l3.length := (List.getElem?_eq_some_iff.1 e).1
    obtain ⟨u', e', hu⟩ := h.rows i hi
    rw [e] at e'
    cases e'
    exact ⟨(h.dr i u g e hg9).1, apart_app (fun g h1 => (World.ownsRow.lt hu g h1).2) (fun g h1 => (h.dr i u g e h1).2.1) hat g hg9, (h.dr i u g e hg9).2.2⟩
  · exact tn_below (tn_below h.t (hbelow.mono (by omega)) (Nat.le_refl _)) hset (Nat.le_refl _)
/-- a row more, behind the store -/
theorem Bst.app3 {u0 : Value} {k0 : Nat} {F0 : Nat → Int} {o : Obj} (h : Bst w wx C B a len cap n' v1 v2 v3 l1 l2 l3 K F) (hu0 : Own wx (B + 1) u0 k0 F0) (hd0 : ∀ g, u0.ownBlock = some g → v1.ownBlock ≠ some g ∧ v2.ownBlock ≠ some g ∧ v3.ownBlock ≠ some g) (hg : (wx.alloc o).grownBy wy v3.ownBlock) (ho : wy.ownsRow (B + 1) 41 1 v' (l3.length + 1) (l3 ++ [u0])) (hat : v'.ownBlock = v3.ownBlock ∨ v'.ownBlock = some (wx.alloc o).heap.size) :
    Bst w (wy.setCell ⟨B, 2, none⟩ v') C B a len cap n' v1 v2 v' l1 l2 (l3 ++ [u0]) (fun i => if i = l3.length then k0 else K i) (fun i => if i = l3.length then F0 else F i) := by
  have hcb := h.cb
  have hsz := h.t.size
  have hbx := h.box.lt
  have hbelow : Below (B + 1) wx wy := ((Below.refl (B + 1) wx).alloc (by omega) o).grown hg (by simp; omega) (fun q hq => (World.ownsRow.lt h.o3 q hq).1)
  have hbx2 : Bx (wy.setCell ⟨B, 2, none⟩ v') B [v1, v2, v'] := (h.box.below hbelow (by omega)).set 2 (by simp) v'
  have hset : Below w.heap.size wy (wy.setCell ⟨B, 2, none⟩ v') := (Below.refl _ _).setCell (p := ⟨B, 2, none⟩) hcb.2 v'
  have hlt1 : ∀ g, v1.ownBlock = some g → g < wx.heap.size := fun g hg9 => (World.ownsRow.lt h.o1 g hg9).2
  have hlt2 : ∀ g, v2.ownBlock = some g → g < wx.heap.size := fun g hg9 => (World.ownsRow.lt h.o2 g hg9).2
  have hdr : ∀ (i : Nat) (u : Value) (g : Nat), (l3 ++ [u0])[i]? = some u → u.ownBlock = some g → (v1.ownBlock ≠ some g ∧ v2.ownBlock ≠ some g ∧ v3.ownBlock ≠ some g) ∧ g < wx.heap.size := fun i u g e hg9 => by
    by_cases hi : i < l3.length
    · rw [List.getElem?_append_left hi] at e
      obtain ⟨u', e', hu⟩ := h.rows i hi
      rw [e] at e'
      cases e'
      exact ⟨h.dr i u g e hg9, (World.ownsRow.lt hu g hg9).2⟩
    · have hi2 : i = l3.length := by
        have := (List.getElem?_eq_some_iff.1 e).1
        simp at this
        omega
      subst hi2
      rw [List.getElem?_append_right (Nat.le_refl _)] at e
      simp at e
      subst e
      exact ⟨hd0 g hg9, (World.ownsRow.lt hu0 g hg9).2⟩
  refine ⟨(h.cur.below hbelow (by omega)).below hset (by omega), hbx2, hcb, owns_set (owns_kept h.o1 hg fun g hg9 => h.d13 g hg9) (by omega) v', owns_set (owns_kept h.o2 hg fun g hg9 => h.d23 g hg9) (by omega) v', ?_, fun i hi => ?_, h.d12, apart_app hlt1 h.d13 hat, apart_app hlt2 h.d23 hat, ?_, h.sm, ?_⟩
  · rw [List.length_append]
    exact owns_set ho (by omega) v'
  · by_cases hl : i < l3.length
    · obtain ⟨u, e, hu⟩ := h.rows i hl
      refine ⟨u, by rw [List.getElem?_append_left hl]; exact e, ?_⟩
      rw [if_neg (by omega), if_neg (by omega)]
      exact owns_set (owns_kept hu hg fun g hg9 => (h.dr i u g e hg9).2.2) (by omega) v'
    · have hi2 : i = l3.length := by simp at hi; omega
      subst hi2
      refine ⟨u0, by simp, ?_⟩
      rw [if_pos rfl, if_pos rfl]
      exact owns_set (owns_kept hu0 hg fun g hg9 => (hd0 g hg9).2.2) (by omega) v'
  · intro i u g e hg9
    obtain ⟨h1, h2⟩ := hdr i u g e hg9
    refine ⟨h1.1, h1.2.1, ?_⟩
    exact apart_app (u := u) (fun g' h' => (hdr i u g' e h').2) (fun g' h' => (hdr i u g' e h').1.2.2) hat g hg9
  · exact tn_below (tn_below h.t (hbelow.mono (by omega)) (Nat.le_refl _)) hset (Nat.le_refl _)
/-- a block aside grows -/
theorem Bst.side {o : Obj} {row : Option Nat} (h : Bst w wx C B a len cap n' v1 v2 v3 l1 l2 l3 K F) (hg : (wx.alloc o).grownBy wy row) (hr : ∀ g, row = some g → B + 1 ≤ g ∧ v1.ownBlock ≠ some g ∧ v2.ownBlock ≠ some g ∧ v3.ownBlock ≠ some g ∧ ∀ (i : Nat) (u : Value), l3[i]? = some u → u.ownBlock ≠ some g) :
    Bst w wy C B a len cap n' v1 v2 v3 l1 l2 l3 K F := by
  have hcb := h.cb
  have hsz := h.t.size
  have hbx := h.box.lt
  have hbelow : Below (B + 1) wx wy := ((Below.refl (B + 1) wx).alloc (by omega) o).grown hg (by simp; omega) (fun q hq => (hr q hq).1)
  refine ⟨h.cur.below hbelow (by omega), h.box.below hbelow (by omega), hcb, owns_kept h.o1 hg fun g hg9 e9 => (hr g e9).2.1 hg9, owns_kept h.o2 hg fun g hg9 e9 => (hr g e9).2.2.1 hg9, owns_kept h.o3 hg fun g hg9 e9 => (hr g e9).2.2.2.1 hg9, fun i hi => ?_, h.d12, h.d13, h.d23, h.dr, h.sm, tn_below h.t (hbelow.mono (by omega)) (Nat.le_refl _)⟩
  obtain ⟨u, e, hu⟩ := h.rows i hi
  exact ⟨u, e, owns_kept hu hg fun g hg9 e9 => (hr g e9).2.2.2.2 i u e hg9⟩
/-- the row that is being made: of the call's own, apart from all the others -/
structure Rws (wx : World) (B : Nat) (v1 v2 v3 : Value) (l3 : List Value) (v : Value) (k : Nat) (G : Nat → Int) : Prop where
  own : Own wx (B + 1) v k G
  ap : ∀ g, v.ownBlock = some g → v1.ownBlock ≠ some g ∧ v2.ownBlock ≠ some g ∧ v3.ownBlock ≠ some g ∧ ∀ (i : Nat) (u : Value), l3[i]? = some u → u.ownBlock ≠ some g
theorem rws_nil (wx : World) (B : Nat) (v1 v2 v3 : Value) (l3 : List Value) (G : Nat → Int) : Rws wx B v1 v2 v3 l3 (.slice none 0 0) 0 G := ⟨World.ownsRow_nil _ _ _ _, fun g hg => by cases hg⟩
theorem Rws.step {v : Value} {k : Nat} {G : Nat → Int} (h : Rws wx B v1 v2 v3 l3 v k G) (t : Turns C (C + 1) wx wy) (hC : C < B + 1) : Rws wy B v1 v2 v3 l3 v k G := ⟨owns_turns h.own t hC, h.ap⟩
/-- it grows by one: all stands -/
theorem Rws.app {v : Value} {k : Nat} {G : Nat → Int} {x : Int} {o : Obj} (hb : Bst w wx C B a len cap n' v1 v2 v3 l1 l2 l3 K F) (h : Rws wx B v1 v2 v3 l3 v k G) (hg : (wx.alloc o).grownBy wy v.ownBlock) (ho : wy.ownsRow (B + 1) 3 1 v' (k + 1) (vL G k ++ [.int .i64 x])) (hat : v'.ownBlock = v.ownBlock ∨ v'.ownBlock = some (wx.alloc o).heap.size) :
    Bst w wy C B a len cap n' v1 v2 v3 l1 l2 l3 K F ∧ Rws wy B v1 v2 v3 l3 v' (k + 1) (put G k x) := by
  refine ⟨hb.side hg fun g hg9 => ⟨(World.ownsRow.lt h.own g hg9).1, h.ap g hg9⟩, own_put ho, fun g hg9 => ⟨?_, ?_, ?_, fun i u e e9 => ?_⟩⟩
  · intro e9
    exact apart_app (fun g h1 => (World.ownsRow.lt hb.o1 g h1).2) (fun g h1 h2 => (h.ap g h2).1 h1) hat g e9 hg9
  · intro e9
    exact apart_app (fun g h1 => (World.ownsRow.lt hb.o2 g h1).2) (fun g h1 h2 => (h.ap g h2).2.1 h1) hat g e9 hg9
  · intro e9
    exact apart_app (fun g h1 => (World.ownsRow.lt hb.o3 g h1).2) (fun g h1 h2 => (h.ap g h2).2.2.1 h1) hat g e9 hg9
  · have hi : i < l3.length := (List.getElem?_eq_some_iff.1 e).1
    obtain ⟨u', e', hu⟩ := hb.rows i hi
    rw [e] at e'
    cases e'
    exact apart_app (fun g h1 => (World.ownsRow.lt hu g h1).2) (fun g h1 h2 => (h.ap g h2).2.2.2 i u e h1) hat g e9 hg9
end
end Go.Proofs.YtapodfkoknmhdaaDoor
