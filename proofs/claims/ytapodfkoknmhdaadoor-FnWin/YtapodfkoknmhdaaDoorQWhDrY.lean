/- A board that is drawn: what stands ahead of its first place, behind new blocks, behind a row stored anew, and how it is told. -/
import Derived.Test.YtapodfkoknmhdaaDoorQWhDrV
namespace Go.Proofs.YtapodfkoknmhdaaDoor
open Go.RowKit
theorem infoRw : (Tryd.prog.info? 41).map (fun i => (i.zero, i.size, i.bytes)) = some (some (.slice none 0 0), 1, 24) := by kernel_rfl
section
variable {w wx wy : World} {C B : Nat} {a : Option Addr} {len cap n' : Nat} {v1 v2 v3 : Value} {l1 : List ByteArray} {l2 : List Bool} {l3 : List Value} {K : Nat → Nat} {F : Nat → Nat → Int}
/-- nothing has been drawn yet -/
theorem bst_new (ob : Obj) (h : Cur w C a len cap n') : Bst (w.alloc ob) ((w.alloc ob).alloc (bdO none 0 0 none 0 0 none 0 0 38)) C (w.heap.size + 1) a len cap n' (.slice none 0 0) (.slice none 0 0) (.slice none 0 0) [] [] [] K F := by
  have hb : Below w.heap.size w ((w.alloc ob).alloc (bdO none 0 0 none 0 0 none 0 0 38)) := ((Below.refl _ _).alloc (Nat.le_refl _) _).alloc (by simp) _
  have hC := h.lt
  refine ⟨h.below hb hC, bx_new (w := w.alloc ob) (bdL none 0 0 none 0 0 none 0 0) 38 (by simp), by simp; omega, World.ownsRow_nil _ _ _ _, World.ownsRow_nil _ _ _ _, World.ownsRow_nil _ _ _ _, fun i hi => absurd hi (Nat.not_lt_zero _), (fun g hg => nomatch hg), (fun g hg => nomatch hg), (fun g hg => nomatch hg), (fun i u g e => by simp at e), (fun s hs => nomatch hs), turns_of ((Below.refl _ _).alloc (Nat.le_refl _) _)⟩
/-- a block more -/
theorem Bst.al (h : Bst w wx C B a len cap n' v1 v2 v3 l1 l2 l3 K F) (o : Obj) : Bst w (wx.alloc o) C B a len cap n' v1 v2 v3 l1 l2 l3 K F :=
  h.side (o := o) (row := none) ⟨rfl, rfl, rfl, Nat.le_refl _, fun _ _ _ => rfl⟩ (fun g hg => by cases hg)
/-- the struct's box while one of its lists grows -/
theorem Bst.bxg {o : Obj} {row : Option Nat} (h : Bst w wx C B a len cap n' v1 v2 v3 l1 l2 l3 K F) (hg : (wx.alloc o).grownBy wy row) (hr : ∀ g, row = some g → B + 1 ≤ g) : Bx wy B [v1, v2, v3] := by
  have hbx := h.box.lt
  have hbelow : Below (B + 1) wx wy := ((Below.refl (B + 1) wx).alloc (by omega) o).grown hg (by simp; omega) hr
  exact h.box.below hbelow (by omega)
/-- the first row is another one -/
theorem Bst.set3 (h : Bst w wx C B a len cap n' v1 v2 v3 l1 l2 l3 K F) (hl : 0 < l3.length) {u0 : Value} {k0 : Nat} {F0 : Nat → Int} (hu0 : Own wx (B + 1) u0 k0 F0) (hd0 : ∀ g, u0.ownBlock = some g → v1.ownBlock ≠ some g ∧ v2.ownBlock ≠ some g ∧ v3.ownBlock ≠ some g) :
    ∃ g c, v3 = .slice (some ⟨g, 0, none⟩) l3.length c ∧ (∃ u, wx.cell? ⟨g, 0, none⟩ = some u) ∧ wx.frozen? ⟨g, 0, none⟩ = false ∧ g < wx.heap.size ∧ B < g ∧ Bst w (wx.setCell ⟨g, 0, none⟩ u0) C B a len cap n' v1 v2 v3 l1 l2 (l3.set 0 u0) (fun i => if i = 0 then k0 else K i) (fun i => if i = 0 then F0 else F i) := by
  have h1 := h.o3
  obtain ⟨_, ⟨_, h2⟩ | ⟨g, c, cur, e1, hb, hg, _⟩⟩ := h1
  · omega
  · subst e1
    have hst := World.ownsRow.stored h.o3 0 u0
    have hcb := h.cb
    have hsz := h.t.size
    have hbel : Below (B + 1) wx (wx.setCell ⟨g, 0, none⟩ u0) := (Below.refl _ _).setCell (p := ⟨g, 0, none⟩) hb u0
    have ho : (Value.slice (some ⟨g, 0, none⟩) l3.length c).ownBlock = some g := rfl
    refine ⟨g, c, rfl, ⟨_, (World.ownsRow.cellAt h.o3 0 (by omega)).trans (by simp [hl]; rfl)⟩, World.ownsRow.frozenAt h.o3 0, (Array.getElem?_eq_some_iff.1 hg).1, hb, h.cur.below hbel (by omega), h.box.below hbel (by omega), hcb, owns_other h.o1 (fun e => h.d13 g e ho) _, owns_other h.o2 (fun e => h.d23 g e ho) _, ?_, fun i hi => ?_, h.d12, h.d13, h.d23, fun i u q e hq => ?_, h.sm, tn_below h.t (hbel.mono (by omega)) (Nat.le_refl _)⟩
    · rw [List.length_set]
      exact hst.1
    · rw [List.length_set] at hi
      by_cases c0 : i = 0
      · subst c0
        refine ⟨u0, by simp [hl], ?_⟩
        rw [if_pos rfl, if_pos rfl]
        exact owns_other hu0 (fun e9 => (hd0 g e9).2.2 ho) _
      · obtain ⟨u, e, hu⟩ := h.rows i hi
        refine ⟨u, by rw [List.getElem?_set_ne (by omega)]; exact e, ?_⟩
        rw [if_neg c0, if_neg c0]
        exact owns_other hu (fun e9 => (h.dr i u g e e9).2.2 ho) _
    · by_cases c0 : i = 0
      · subst c0
        simp [hl] at e
        subst e
        exact hd0 q hq
      · rw [List.getElem?_set_ne (by omega)] at e
        exact h.dr i u q e hq
end
/-- it is told -/
theorem Bst.ans {w wx : World} {C : Nat} {a : Option Addr} {len cap n n' : Nat} {v1 v2 v3 : Value} {l1 : List ByteArray} {l2 : List Bool} {l3 : List Value} {K : Nat → Nat} {F : Nat → Nat → Int} {ob : Obj}
    (h : Bst (w.alloc ob) wx C (w.heap.size + 1) a len cap n' v1 v2 v3 l1 l2 l3 K F) (hC : C < w.heap.size) (h1 : l1.length ≤ 100) (h2 : l2.length ≤ 100) (h3 : l3.length ≤ 100) (hK : ∀ i, i < l3.length → K i ≤ 100) (hn : n' ≤ n + 5000) :
    AnsBo w (((wx.setCell ⟨w.heap.size, 0, none⟩ v1).setCell ⟨w.heap.size, 1, none⟩ v2).setCell ⟨w.heap.size, 2, none⟩ v3) (.returned (.agg #[v1, v2, v3])) C a len cap n := by
  obtain ⟨x1, c1, x2, c2, x3, c3, rfl, rfl, rfl, hF⟩ := h.bf
  have hs := h.t.size
  have hz : w.heap.size + 1 ≤ wx.heap.size := by simpa using hs
  refine ⟨x1, l1.length, c1, x2, l2.length, c2, x3, l3.length, c3, (fun i => l1[i]!), (fun i => l2[i]!), K, F, n', rfl, ⟨h1, h2, h3⟩, ⟨fun i hi => ?_, hK⟩, ?_, hn, ?_, ?_⟩
  · have : l1[i]! ∈ l1 := by simp [hi]
    exact h.sm _ this
  · exact ((((hF.mono (lo' := w.heap.size + 1) (by omega)).far (by omega) _).far (by omega) _).far (by omega) _).mono (by omega)
  · have hb : Below w.heap.size wx (((wx.setCell ⟨w.heap.size, 0, none⟩ (.slice x1 l1.length c1)).setCell ⟨w.heap.size, 1, none⟩ (.slice x2 l2.length c2)).setCell ⟨w.heap.size, 2, none⟩ (.slice x3 l3.length c3)) := (((Below.refl _ _).setCell (p := ⟨w.heap.size, 0, none⟩) (Nat.le_refl _) _).setCell (p := ⟨w.heap.size, 1, none⟩) (Nat.le_refl _) _).setCell (p := ⟨w.heap.size, 2, none⟩) (Nat.le_refl _) _
    exact h.cur.below hb hC
  · have hb : Below w.heap.size wx (((wx.setCell ⟨w.heap.size, 0, none⟩ (.slice x1 l1.length c1)).setCell ⟨w.heap.size, 1, none⟩ (.slice x2 l2.length c2)).setCell ⟨w.heap.size, 2, none⟩ (.slice x3 l3.length c3)) := (((Below.refl _ _).setCell (p := ⟨w.heap.size, 0, none⟩) (Nat.le_refl _) _).setCell (p := ⟨w.heap.size, 1, none⟩) (Nat.le_refl _) _).setCell (p := ⟨w.heap.size, 2, none⟩) (Nat.le_refl _) _
    exact tn_below (Turns.trans (turns_of ((Below.refl _ _).alloc (Nat.le_refl _) ob)) h.t) hb (Nat.le_refl _)
section
variable {w wx wy : World} {C B : Nat} {a : Option Addr} {len cap n' : Nat} {v1 v2 v3 v v' : Value} {l1 : List ByteArray} {l2 : List Bool} {l3 : List Value} {K : Nat → Nat} {F : Nat → Nat → Int} {k : Nat} {G : Nat → Int} {o : Obj}
theorem Rws.a1 (h : Rws wx B v1 v2 v3 l3 v k G) (hg : (wx.alloc o).grownBy wy v1.ownBlock) (hat : v'.ownBlock = v1.ownBlock ∨ v'.ownBlock = some (wx.alloc o).heap.size) : Rws (wy.setCell ⟨B, 0, none⟩ v') B v' v2 v3 l3 v k G :=
  ⟨owns_set (owns_kept h.own hg fun g hg9 => (h.ap g hg9).1) (by omega) v', fun g hg9 => ⟨apart_app (fun g h1 => (World.ownsRow.lt h.own g h1).2) (fun g h1 => (h.ap g h1).1) hat g hg9, (h.ap g hg9).2⟩⟩
theorem Rws.a2 (h : Rws wx B v1 v2 v3 l3 v k G) (hg : (wx.alloc o).grownBy wy v2.ownBlock) (hat : v'.ownBlock = v2.ownBlock ∨ v'.ownBlock = some (wx.alloc o).heap.size) : Rws (wy.setCell ⟨B, 1, none⟩ v') B v1 v' v3 l3 v k G :=
  ⟨owns_set (owns_kept h.own hg fun g hg9 => (h.ap g hg9).2.1) (by omega) v', fun g hg9 => ⟨(h.ap g hg9).1, apart_app (fun g h1 => (World.ownsRow.lt h.own g h1).2) (fun g h1 => (h.ap g h1).2.1) hat g hg9, (h.ap g hg9).2.2⟩⟩
theorem Bst.dr_ (h : Bst w wx C B a len cap n' v1 v2 v3 l1 l2 l3 K F) : Bst w wx.drew C B a len cap n' v1 v2 v3 l1 l2 l3 K F := h.step h.cur.drew (turns_of (Below.refl _ _).drew)
end
/-- an append goes on behind the calls of its region -/
theorem held_app {P : Program} {o : Oper} {a : Act} {w w' : World} {K : Act → World → Prop} {Q : Exit → Act → World → Prop} {b : Prop} [Decidable b] (hb : b) (s x : Operand) (t : TypeId) (ho : o.op = .call { callee := .builtin .append, args := #[s, x], argTypes := #[t, t] }) {v vx v' : Value} (hs : a.eval s = v) (hx : a.eval x = vx) (hr : (Builtin.append_ #[t, t] o.type #[v, vx]).run P w = .ok v' w') (h : K (a.put o.dst v') w') : if b then Oper.wp P o a w K Q else K (a.put o.dst undef) w := by
  rw [if_pos hb]
  unfold Oper.wp execOp
  simp only [ho, resolve, invoke, builtin, Sem.run_bind, Sem.run_pure, Result.andThen_ok, List.map_toArray, List.map_cons, List.map_nil, hs, hx, hr]
  exact h
/-- k places have been drawn -/
def Bk (w wx : World) (C B : Nat) (a : Option Addr) (len cap n' k : Nat) : Prop :=
  ∃ v1 v2 v3 l1 l2 l3 K F, Bst w wx C B a len cap n' v1 v2 v3 l1 l2 l3 K F ∧ l1.length = k ∧ l2.length = k ∧ l3.length = k ∧ ∀ i, i < k → K i ≤ 20
end Go.Proofs.YtapodfkoknmhdaaDoor
