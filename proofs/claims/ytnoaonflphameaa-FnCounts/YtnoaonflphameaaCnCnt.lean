/- Drawn counts: what stands while they are drawn. -/
import Derived.Test.YtnoaonflphameaaCnNew
import Derived.Test.YtnoaonflphameaaPlExt
import Derived.Deep.RegionWith
import Derived.Deep.AppendLies
namespace Go.Proofs.Ytnoaonflphameaa
open Go.RowKit

theorem turns_below {lo hi B : Nat} {w w' w'' : World} (h : Turns lo hi w w') (k : Below B w' w'') (hB : w.heap.size ≤ B) : Turns lo hi w w'' :=
  ⟨k.os.trans h.os, k.tape.trans h.tape, k.output.trans h.output, Nat.le_trans h.size k.size, fun j hj hd => (k.block j (by omega)).trans (h.block j hj hd)⟩
/-- two lists of n ints in blocks of their own behind R, none of them M's; or none -/
inductive Ls (wx : World) (R M n : Nat) (av bv : Option Addr) (F G : Nat → Int) : Prop
  | none (h0 : n = 0) (h1 : av = .none) (h2 : bv = .none)
  | some (ga gb : Nat) (h1 : av = .some ⟨ga, 0, .none⟩) (h2 : bv = .some ⟨gb, 0, .none⟩) (la : R < ga) (lb : R < gb) (ab : ga ≠ gb) (am : ga ≠ M) (bm : gb ≠ M) (p : IP wx ga n F) (q : IP wx gb n G) (k : Blk wx gb n)
theorem Ls.turns {wx w2 : World} {R M n C : Nat} {av bv : Option Addr} {F G : Nat → Int} (h : Ls wx R M n av bv F G) (t : Turns C (C + 1) wx w2) (hC : C ≤ R) : Ls w2 R M n av bv F G := by
  cases h with
  | none h0 h1 h2 => exact .none h0 h1 h2
  | some ga gb h1 h2 la lb ab am bm p q k =>
    exact .some ga gb h1 h2 la lb ab am bm (ip_turns p t (by omega)) (ip_turns q t (by omega)) (k.same (t.block gb q.lt (by omega)))
theorem Ls.on {wx w2 : World} {R M n : Nat} {av bv : Option Addr} {F G : Nat → Int} (h : Ls wx R M n av bv F G) (k : Below wx.heap.size wx w2) : Ls w2 R M n av bv F G := by
  cases h with
  | none h0 h1 h2 => exact .none h0 h1 h2
  | some ga gb h1 h2 la lb ab am bm p q b => exact .some ga gb h1 h2 la lb ab am bm (p.below k p.lt) (q.below k q.lt) (b.same (k.block gb q.lt))
theorem Ls.far {wx : World} {R M n b j : Nat} {av bv : Option Addr} {F G : Nat → Int} (h : Ls wx R M n av bv F G) (v : Value) (hb : b ≤ R ∨ b = M) : Ls (wx.setCell ⟨b, j, .none⟩ v) R M n av bv F G := by
  cases h with
  | none h0 h1 h2 => exact .none h0 h1 h2
  | some ga gb h1 h2 la lb ab am bm p q k =>
    exact .some ga gb h1 h2 la lb ab am bm (ip_far p (by omega) v) (ip_far q (by omega) v) (k.same (((Only.refl b wx).set j v).block gb (by omega)))
theorem Ls.il1 {wx : World} {R M n : Nat} {av bv : Option Addr} {F G : Nat → Int} (h : Ls wx R M n av bv F G) : IL wx av n F := by
  cases h with
  | none h0 h1 h2 => subst h0; exact fun h => absurd h (Nat.lt_irrefl _)
  | some ga gb h1 h2 la lb ab am bm p q k => subst h1; exact p.il
theorem Ls.il2 {wx : World} {R M n : Nat} {av bv : Option Addr} {F G : Nat → Int} (h : Ls wx R M n av bv F G) : IL wx bv n G := by
  cases h with
  | none h0 h1 h2 => subst h0; exact fun h => absurd h (Nat.lt_irrefl _)
  | some ga gb h1 h2 la lb ab am bm p q k => subst h2; exact q.il
theorem Ls.own {wx : World} {R M n : Nat} {av bv : Option Addr} {F G : Nat → Int} (h : Ls wx R M n av bv F G) (hn : n ≤ 1000) : Own wx (R + 1) (.slice bv n n) n G := by
  cases h with
  | none h0 h1 h2 => subst h0 h2; exact ⟨by simp [vL], .inl ⟨rfl, rfl⟩⟩
  | some ga gb h1 h2 la lb ab am bm p q k => subst h2; exact own_of q k (by omega) hn
/-- what stands while counts are drawn: the cursor, the answer's box, the counts' box, their lists -/
structure Dc (w wx : World) (C : Nat) (a : Option Addr) (len cap m : Nat) (M : Nat) (V : Int) (av bv : Option Addr) (n : Nat) (F G : Nat → Int) : Prop where
  cur : Cur wx C a len cap m
  r : Bx wx w.heap.size (cntL 0 none 0 0 none 0 0)
  x : Bx wx M (cntL V av n n bv n n)
  l : Ls wx w.heap.size M n av bv F G
  t : Turns C (C + 1) w wx
theorem Dc.turn {w wx w2 : World} {C : Nat} {a : Option Addr} {len cap m m2 : Nat} {M : Nat} {V : Int} {av bv : Option Addr} {n : Nat} {F G : Nat → Int} (g : Dc w wx C a len cap m M V av bv n F G) (o : Only C wx w2) (c : Cur w2 C a len cap m2) (hC : C < w.heap.size) (hM : w.heap.size < M) : Dc w w2 C a len cap m2 M V av bv n F G :=
  ⟨c, g.r.turns (on_turns o) (.inr (by omega)), g.x.turns (on_turns o) (.inr (by omega)), g.l.turns (on_turns o) (by omega), g.t.trans (on_turns o)⟩
theorem Dc.drew {w wx : World} {C : Nat} {a : Option Addr} {len cap m : Nat} {M : Nat} {V : Int} {av bv : Option Addr} {n : Nat} {F G : Nat → Int} (g : Dc w wx C a len cap m M V av bv n F G) : Dc w wx.drew C a len cap m M V av bv n F G :=
  ⟨g.cur.drew, g.r.on (Below.refl _ _).drew, g.x.on (Below.refl _ _).drew, g.l.on (Below.refl _ _).drew, g.t.trans (turns_of (Below.refl _ _).drew)⟩
theorem Dc.al {w wx : World} {C : Nat} {a : Option Addr} {len cap m : Nat} {M : Nat} {V : Int} {av bv : Option Addr} {n : Nat} {F G : Nat → Int} (g : Dc w wx C a len cap m M V av bv n F G) (o : Obj) : Dc w (wx.alloc o) C a len cap m M V av bv n F G := by
  have k := (Below.refl wx.heap.size wx).alloc (Nat.le_refl _) o
  exact ⟨g.cur.below k g.cur.lt, g.r.on k, g.x.on k, g.l.on k, g.t.trans (turns_of k)⟩
theorem Dc.put {w wx : World} {C : Nat} {a : Option Addr} {len cap m : Nat} {M : Nat} {V : Int} {ga gb n : Nat} {F G : Nat → Int} (g : Dc w wx C a len cap m M V (some ⟨ga, 0, none⟩) (some ⟨gb, 0, none⟩) n F G) (hC : C < w.heap.size) {k : Nat} (hk : k < n) (v : Int) :
    Dc w (wx.setCell ⟨ga, k, none⟩ (.int .i64 v)) C a len cap m M V (some ⟨ga, 0, none⟩) (some ⟨gb, 0, none⟩) n (put F k v) G ∧ Dc w (wx.setCell ⟨gb, k, none⟩ (.int .i64 v)) C a len cap m M V (some ⟨ga, 0, none⟩) (some ⟨gb, 0, none⟩) n F (put G k v) := by
  cases g.l with
  | none h0 h1 h2 => omega
  | some ga' gb' h1 h2 la lb ab am bm p q b =>
    cases h1
    cases h2
    have b1 : Below (w.heap.size + 1) wx (wx.setCell ⟨ga, k, none⟩ (.int .i64 v)) := (Below.refl _ _).setCell (p := ⟨ga, k, none⟩) (by simp; omega) _
    have b2 : Below (w.heap.size + 1) wx (wx.setCell ⟨gb, k, none⟩ (.int .i64 v)) := (Below.refl _ _).setCell (p := ⟨gb, k, none⟩) (by simp; omega) _
    refine ⟨⟨g.cur.below b1 (by omega), g.r.below b1 (by omega), g.x.far _ (by omega), .some ga gb rfl rfl la lb ab am bm (p.set hk v) (ip_far q (by omega) _) (b.same (((Only.refl ga wx).set k _).block gb (by omega))), turns_below g.t (b1.mono (by omega)) (Nat.le_refl _)⟩,
      ⟨g.cur.below b2 (by omega), g.r.below b2 (by omega), g.x.far _ (by omega), .some ga gb rfl rfl la lb ab am bm (ip_far p (by omega) _) (q.set hk v) (b.set k _), turns_below g.t (b2.mono (by omega)) (Nat.le_refl _)⟩⟩
theorem Dc.pos {w wx : World} {C : Nat} {a : Option Addr} {len cap m : Nat} {M : Nat} {V : Int} {av bv : Option Addr} {n : Nat} {F G : Nat → Int} (g : Dc w wx C a len cap m M V av bv n F G) (hn : 0 < n) : ∃ ga gb, av = some ⟨ga, 0, none⟩ ∧ bv = some ⟨gb, 0, none⟩ ∧ w.heap.size < ga ∧ w.heap.size < gb ∧ ga ≠ M ∧ gb ≠ M := by
  cases g.l with
  | none h0 h1 h2 => omega
  | some ga gb h1 h2 la lb ab am bm => exact ⟨ga, gb, h1, h2, la, lb, am, bm⟩
theorem Dc.at {w wx : World} {C : Nat} {a : Option Addr} {len cap m : Nat} {M : Nat} {V : Int} {ga gb n : Nat} {F G : Nat → Int} (g : Dc w wx C a len cap m M V (some ⟨ga, 0, none⟩) (some ⟨gb, 0, none⟩) n F G) {k : Nat} (hk : k < n) :
    wx.cell? ⟨M, 1, none⟩ = some (.slice (some ⟨ga, 0, none⟩) n n) ∧ wx.cell? ⟨M, 2, none⟩ = some (.slice (some ⟨gb, 0, none⟩) n n) ∧ wx.cell? ⟨ga, k, none⟩ = some (.int .i64 (F k)) ∧ wx.frozen? ⟨ga, k, none⟩ = false ∧ wx.cell? ⟨gb, k, none⟩ = some (.int .i64 (G k)) ∧ wx.frozen? ⟨gb, k, none⟩ = false := by
  cases g.l with
  | none h0 h1 h2 => omega
  | some ga' gb' h1 h2 la lb ab am bm p q b =>
    cases h1
    cases h2
    exact ⟨g.x.c1, g.x.c2, p.c k hk, p.fz k, q.c k hk, q.fz k⟩
theorem bx_same {w w' : World} {b : Nat} {vs : List Value} (h : Bx w b vs) (e : w'.heap[b]? = w.heap[b]?) (hs : w.heap.size ≤ w'.heap.size) : Bx w' b vs :=
  ⟨Nat.lt_of_lt_of_le h.lt hs, fun i hi => (cell_same e i).trans (h.c i hi), fun j => (frozen_same e j).trans (h.fz j)⟩
theorem Dc.ne {w w5 : World} {C : Nat} {a : Option Addr} {len cap m : Nat} {M : Nat} {V : Int} {av bv : Option Addr} {n : Nat} {F G : Nat → Int} {o : Obj} {q : Nat} (g : Dc w w5 C a len cap m M V av bv n F G) (hat : Value.ownBlock (.slice bv n n) = some q ∨ q = (w5.alloc o).heap.size) (hM : M < w5.heap.size) : q ≠ M := by
  rcases hat with hat | hat
  · cases g.l with
    | none h0 h1 h2 => subst h2; cases hat
    | some ga gb h1 h2 la lb ab am bm p q b => subst h2; have := Option.some.inj (show some gb = some _ from hat); omega
  · rw [size_al] at hat; omega
theorem Dc.ilf {w w5 w6 : World} {C : Nat} {a : Option Addr} {len cap m : Nat} {M : Nat} {V : Int} {av bv : Option Addr} {n j : Nat} {F G F' : Nat → Int} {v : Value} (g : Dc w w5 C a len cap m M V av bv n F G) (h : IL w6 av n F') : IL (w6.setCell ⟨M, j, none⟩ v) av n F' := by
  intro h0
  obtain ⟨b, off, e, hl, hc⟩ := h h0
  refine ⟨b, off, e, by rw [size_set]; exact hl, fun i hi => ?_⟩
  have hne : b ≠ M := by
    cases g.l with
    | none h0' h1 h2 => omega
    | some ga gb h1 h2 la lb ab am => rw [h1] at e; injection e with e; injection e with e; omega
  exact (World.cell?_setCell_other _ _ _ _ (by simp <;> omega)).trans (hc i hi)
theorem il_far {w : World} {b j n : Nat} {av : Option Addr} {F : Nat → Int} {v : Value} (h : IL w av n F) (hb : ∀ x off, av = some ⟨x, off, none⟩ → x ≠ b) : IL (w.setCell ⟨b, j, none⟩ v) av n F := by
  intro h0
  obtain ⟨x, off, e, hl, hc⟩ := h h0
  exact ⟨x, off, e, by rw [size_set]; exact hl, fun i hi => (World.cell?_setCell_other _ _ _ _ (by have := hb x off e; simp <;> omega)).trans (hc i hi)⟩
theorem Dc.avR {w w5 : World} {C : Nat} {a : Option Addr} {len cap m : Nat} {M : Nat} {V : Int} {av bv : Option Addr} {n : Nat} {F G : Nat → Int} (g : Dc w w5 C a len cap m M V av bv n F G) (x off : Nat) (e : av = some ⟨x, off, none⟩) : x ≠ w.heap.size := by
  cases g.l with
  | none h0 h1 h2 => rw [h1] at e; cases e
  | some ga gb h1 h2 la lb => rw [h1] at e; injection e with e; injection e with e; omega
theorem Dc.avC {w w5 : World} {C : Nat} {a : Option Addr} {len cap m : Nat} {M : Nat} {V : Int} {av bv : Option Addr} {n : Nat} {F G : Nat → Int} (g : Dc w w5 C a len cap m M V av bv n F G) (hC : C < w.heap.size) (x off : Nat) (e : av = some ⟨x, off, none⟩) : C < x := by
  cases g.l with
  | none h0 h1 h2 => rw [h1] at e; cases e
  | some ga gb h1 h2 la lb => rw [h1] at e; injection e with e; injection e with e; omega
theorem Dc.bvC {w w5 : World} {C : Nat} {a : Option Addr} {len cap m : Nat} {M : Nat} {V : Int} {av bv : Option Addr} {n : Nat} {F G : Nat → Int} (g : Dc w w5 C a len cap m M V av bv n F G) (hC : C < w.heap.size) (x off : Nat) (e : bv = some ⟨x, off, none⟩) : C < x := by
  cases g.l with
  | none h0 h1 h2 => rw [h2] at e; cases e
  | some ga gb h1 h2 la lb => rw [h2] at e; injection e with e; injection e with e; omega
theorem il_turns {w w' : World} {C n : Nat} {av : Option Addr} {F : Nat → Int} (h : IL w av n F) (t : Turns C (C + 1) w w') (hb : ∀ x off, av = some ⟨x, off, none⟩ → C < x) : IL w' av n F := by
  intro h0
  obtain ⟨x, off, e, hl, hc⟩ := h h0
  have hx := hb x off e
  exact ⟨x, off, e, Nat.lt_of_lt_of_le hl t.size, fun i hi => (cell_same (t.block x hl (.inr (by omega))) (off + i)).trans (hc i hi)⟩
/-- behind an append to the second list -/
theorem Dc.app {w w5 w6 : World} {C : Nat} {a : Option Addr} {len cap m : Nat} {M : Nat} {V : Int} {av bv : Option Addr} {n : Nat} {F G : Nat → Int} {o : Obj} (g : Dc w w5 C a len cap m M V av bv n F G) (hC : C < w.heap.size) (hg : (w5.alloc o).grownBy w6 (Value.ownBlock (.slice bv n n))) :
    Bx w6 M (cntL V av n n bv n n) ∧ Bx w6 w.heap.size (cntL 0 none 0 0 none 0 0) ∧ IL w6 av n F ∧ Cur w6 C a len cap m ∧ Turns C (C + 1) w w6 ∧ w5.heap.size + 1 ≤ w6.heap.size := by
  have hs : w5.heap.size + 1 ≤ w6.heap.size := by have := hg.size; rw [size_al] at this; exact this
  have hsz := g.r.lt
  have hb : ∀ b, b < w5.heap.size → some b ≠ Value.ownBlock (.slice bv n n) → w6.heap[b]? = w5.heap[b]? := fun b h1 h2 =>
    (hg.block b (by rw [size_al]; omega) h2).trans (((Below.refl w5.heap.size w5).alloc (Nat.le_refl _) o).block b h1)
  cases g.l with
  | none h0 h1 h2 =>
    subst h0 h1 h2
    have hb' : ∀ b, b < w5.heap.size → w6.heap[b]? = w5.heap[b]? := fun b h1 => hb b h1 (fun e => by cases e)
    have k : Below w5.heap.size w5 w6 := ⟨hg.os, hg.tape, hg.output, by omega, hb'⟩
    exact ⟨g.x.on k, g.r.on k, fun h => absurd h (Nat.lt_irrefl _), g.cur.below k g.cur.lt, turns_below g.t (k.mono (by omega)) (Nat.le_refl _), hs⟩
  | some ga gb h1 h2 la lb ab am bm p q b =>
    subst h1 h2
    have hb' : ∀ b, b < w5.heap.size → b ≠ gb → w6.heap[b]? = w5.heap[b]? := fun b h1 h2 => hb b h1 (fun e => h2 (Option.some.inj e))
    have k : Below (w.heap.size + 1) w5 w6 := ⟨hg.os, hg.tape, hg.output, by omega, fun b h1 => hb' b (by omega) (by omega)⟩
    have eA := hb' ga p.lt ab
    exact ⟨bx_same g.x (hb' M g.x.lt (Ne.symm bm)) (by omega), g.r.below k (by omega), IP.il ⟨by have := p.lt; omega, fun i hi => (cell_same eA i).trans (p.c i hi), fun j => (frozen_same eA j).trans (p.fz j)⟩, g.cur.below k (by omega), turns_below g.t (k.mono (by omega)) (Nat.le_refl _), hs⟩
end Go.Proofs.Ytnoaonflphameaa
