/- Lists of a call's own by the range of blocks in which they lie; boxes of some cells. -/
import Derived.Test.YtmlfijapndkfhaaDoorQInCore
namespace Go.Proofs.YtmlfijapndkfhaaDoor
open Go.RowKit

/-- blocks from lo on, below hi, alone have turned -/
structure OnlyIn (lo hi : Nat) (w w' : World) : Prop where
  os : w'.os = w.os
  tape : w'.tape = w.tape
  output : w'.output = w.output
  size : w'.heap.size = w.heap.size
  block : ∀ k, (k < lo ∨ hi ≤ k) → w'.heap[k]? = w.heap[k]?
theorem OnlyIn.refl (lo hi : Nat) (w : World) : OnlyIn lo hi w w := ⟨rfl, rfl, rfl, rfl, fun _ _ => rfl⟩
theorem OnlyIn.of {b lo hi : Nat} {w w' : World} (h : Only b w w') (h0 : lo ≤ b) (h1 : b < hi) : OnlyIn lo hi w w' :=
  ⟨h.os, h.tape, h.output, h.size, fun k hk => h.block k (by omega)⟩
theorem OnlyIn.below {lo hi : Nat} {w w' : World} (h : OnlyIn lo hi w w') : Below lo w w' := ⟨h.os, h.tape, h.output, Nat.le_of_eq h.size.symm, fun k hk => h.block k (.inl hk)⟩
theorem OnlyIn.wide {lo hi lo' hi' : Nat} {w w' : World} (h : OnlyIn lo hi w w') (h0 : lo' ≤ lo) (h1 : hi ≤ hi') : OnlyIn lo' hi' w w' :=
  ⟨h.os, h.tape, h.output, h.size, fun k hk => h.block k (by omega)⟩
theorem OnlyIn.trans {lo hi : Nat} {w w' w'' : World} (h : OnlyIn lo hi w w') (k : OnlyIn lo hi w' w'') : OnlyIn lo hi w w'' :=
  ⟨k.os.trans h.os, k.tape.trans h.tape, k.output.trans h.output, k.size.trans h.size, fun c hc => (k.block c hc).trans (h.block c hc)⟩

/-- a list of ints that lies in one block from lo on, below hi, and may be written -/
def LQ (w : World) (lo hi : Nat) (a : Option Addr) (n : Nat) (F : Nat → Int) : Prop :=
  0 < n → ∃ b, a = some ⟨b, 0, none⟩ ∧ lo ≤ b ∧ b < hi ∧ IP w b n F
theorem LQ.il {w : World} {lo hi : Nat} {a : Option Addr} {n : Nat} {F : Nat → Int} (h : LQ w lo hi a n F) : IL w a n F := fun h0 => by
  obtain ⟨b, rfl, _, _, hP⟩ := h h0
  exact hP.il h0
theorem LQ.on {w w' : World} {lo hi : Nat} {a : Option Addr} {n : Nat} {F : Nat → Int} (h : LQ w lo hi a n F) (k : Below w.heap.size w w') : LQ w' lo hi a n F := fun h0 => by
  obtain ⟨b, rfl, h1, h2, hP⟩ := h h0
  exact ⟨b, rfl, h1, h2, hP.below k hP.lt⟩
theorem LQ.below {w w' : World} {B lo hi : Nat} {a : Option Addr} {n : Nat} {F : Nat → Int} (h : LQ w lo hi a n F) (k : Below B w w') (hB : hi ≤ B) : LQ w' lo hi a n F := fun h0 => by
  obtain ⟨b, rfl, h1, h2, hP⟩ := h h0
  exact ⟨b, rfl, h1, h2, hP.below k (by omega)⟩
theorem LQ.only {w w' : World} {lo hi lo' hi' : Nat} {a : Option Addr} {n : Nat} {F : Nat → Int} (h : LQ w lo hi a n F) (k : OnlyIn lo' hi' w w') (hd : hi ≤ lo' ∨ hi' ≤ lo) : LQ w' lo hi a n F := fun h0 => by
  obtain ⟨b, rfl, h1, h2, hP⟩ := h h0
  have e := k.block b (by omega)
  exact ⟨b, rfl, h1, h2, by rw [k.size]; exact hP.lt, fun i hi => (cell_same e _).trans (hP.c i hi), fun j => (frozen_same e j).trans (hP.fz j)⟩
theorem LQ.congr {w : World} {lo hi : Nat} {a : Option Addr} {n : Nat} {F G : Nat → Int} (h : LQ w lo hi a n F) (e : ∀ i, i < n → F i = G i) : LQ w lo hi a n G := fun h0 => by
  obtain ⟨b, rfl, h1, h2, hP⟩ := h h0
  exact ⟨b, rfl, h1, h2, hP.congr e⟩
theorem LQ.wide {w : World} {lo hi lo' hi' : Nat} {a : Option Addr} {n : Nat} {F : Nat → Int} (h : LQ w lo hi a n F) (h0 : lo' ≤ lo) (h1 : hi ≤ hi') : LQ w lo' hi' a n F := fun hn => by
  obtain ⟨b, rfl, h2, h3, hP⟩ := h hn
  exact ⟨b, rfl, by omega, by omega, hP⟩
theorem lq_none (w : World) (lo hi : Nat) (a : Option Addr) (F : Nat → Int) : LQ w lo hi a 0 F := fun h => absurd h (Nat.lt_irrefl _)
theorem lq_of {w : World} {b lo hi n : Nat} {F : Nat → Int} (h : IP w b n F) (h0 : lo ≤ b) (h1 : b < hi) : LQ w lo hi (some ⟨b, 0, none⟩) n F := fun _ => ⟨b, rfl, h0, h1, h⟩
theorem Own.lq {w : World} {base : Nat} {a : Option Addr} {k c : Nat} {F : Nat → Int} (h : Own w base (.slice a k c) k F) : LQ w base w.heap.size a k F := fun h0 => by
  obtain ⟨g, cap, e, hg, hP⟩ := h.some h0
  cases e
  exact ⟨g, rfl, hg, hP.lt, hP⟩

/-- of the blocks that there were, those from lo on, below hi, alone have turned -/
structure Turns (lo hi : Nat) (w w' : World) : Prop where
  os : w'.os = w.os
  tape : w'.tape = w.tape
  output : w'.output = w.output
  size : w.heap.size ≤ w'.heap.size
  block : ∀ k, k < w.heap.size → (k < lo ∨ hi ≤ k) → w'.heap[k]? = w.heap[k]?
theorem OnlyIn.turns {lo hi : Nat} {w w' : World} (h : OnlyIn lo hi w w') : Turns lo hi w w' := ⟨h.os, h.tape, h.output, Nat.le_of_eq h.size.symm, fun k _ hk => h.block k hk⟩
theorem turns_of {lo hi : Nat} {w w' : World} (h : Below w.heap.size w w') : Turns lo hi w w' := ⟨h.os, h.tape, h.output, h.size, fun k hk _ => h.block k hk⟩
theorem Turns.trans {lo hi : Nat} {w w' w'' : World} (h : Turns lo hi w w') (k : Turns lo hi w' w'') : Turns lo hi w w'' :=
  ⟨k.os.trans h.os, k.tape.trans h.tape, k.output.trans h.output, Nat.le_trans h.size k.size, fun c h1 hc => (k.block c (Nat.lt_of_lt_of_le h1 h.size) hc).trans (h.block c h1 hc)⟩
theorem Turns.wide {lo hi lo' hi' : Nat} {w w' : World} (h : Turns lo hi w w') (h0 : lo' ≤ lo) (h1 : hi ≤ hi') : Turns lo' hi' w w' :=
  ⟨h.os, h.tape, h.output, h.size, fun k h2 hk => h.block k h2 (by omega)⟩
theorem Turns.below {lo hi B : Nat} {w w' : World} (h : Turns lo hi w w') (h0 : B ≤ lo) (h1 : B ≤ w.heap.size) : Below B w w' := ⟨h.os, h.tape, h.output, h.size, fun k hk => h.block k (by omega) (by omega)⟩
theorem LQ.turns {w w' : World} {lo hi lo' hi' : Nat} {a : Option Addr} {n : Nat} {F : Nat → Int} (h : LQ w lo hi a n F) (k : Turns lo' hi' w w') (hd : hi ≤ lo' ∨ hi' ≤ lo) : LQ w' lo hi a n F := fun h0 => by
  obtain ⟨b, rfl, h1, h2, hP⟩ := h h0
  have e := k.block b hP.lt (by omega)
  exact ⟨b, rfl, h1, h2, Nat.lt_of_lt_of_le hP.lt k.size, fun i hi => (cell_same e _).trans (hP.c i hi), fun j => (frozen_same e j).trans (hP.fz j)⟩

/-- a block of some cells that may be written -/
structure Bx (w : World) (b : Nat) (vs : List Value) : Prop where
  lt : b < w.heap.size
  c : ∀ i, i < vs.length → w.cell? ⟨b, i, none⟩ = vs[i]?
  fz : ∀ j, w.frozen? ⟨b, j, none⟩ = false
theorem Bx.c0 {w : World} {b : Nat} {v : Value} {l : List Value} (h : Bx w b (v :: l)) : w.cell? ⟨b, 0, none⟩ = some v := h.c 0 (by simp)
theorem Bx.c1 {w : World} {b : Nat} {u v : Value} {l : List Value} (h : Bx w b (u :: v :: l)) : w.cell? ⟨b, 1, none⟩ = some v := h.c 1 (by simp)
theorem Bx.c2 {w : World} {b : Nat} {t u v : Value} {l : List Value} (h : Bx w b (t :: u :: v :: l)) : w.cell? ⟨b, 2, none⟩ = some v := h.c 2 (by simp)
theorem Bx.below {w w' : World} {B b : Nat} {vs : List Value} (h : Bx w b vs) (k : Below B w w') (hB : b < B) : Bx w' b vs :=
  ⟨Nat.lt_of_lt_of_le h.lt k.size, fun i hi => (k.cell (p := ⟨b, _, none⟩) hB).trans (h.c i hi), fun j => (k.frozen (p := ⟨b, j, none⟩) hB).trans (h.fz j)⟩
theorem Bx.on {w w' : World} {b : Nat} {vs : List Value} (h : Bx w b vs) (k : Below w.heap.size w w') : Bx w' b vs := h.below k h.lt
theorem Bx.only {w w' : World} {lo hi b : Nat} {vs : List Value} (h : Bx w b vs) (k : OnlyIn lo hi w w') (hd : b < lo ∨ hi ≤ b) : Bx w' b vs :=
  ⟨by rw [k.size]; exact h.lt, fun i hi => (cell_same (k.block b hd) _).trans (h.c i hi), fun j => (frozen_same (k.block b hd) j).trans (h.fz j)⟩
theorem bx_new {w : World} {b : Nat} (vs : List Value) (t : TypeId) (hb : b = w.heap.size) : Bx (w.alloc (.cells vs.toArray t)) b vs := by
  subst hb
  have hr := World.rowIs_alloc w vs.toArray t (fun i => (vs[i]?).getD undef) (by
    intro i hi
    have hi' : i < vs.length := by simpa using hi
    simp [hi'])
  have hs : vs.toArray.size = vs.length := by simp
  rw [hs] at hr
  exact ⟨hr.lt, fun i hi => by rw [hr.cell hi]; simp [hi], fun j => hr.frozen j⟩
theorem Bx.alloc {w : World} {b : Nat} {vs : List Value} (h : Bx w b vs) (o : Obj) : Bx (w.alloc o) b vs := h.on ((Below.refl w.heap.size w).alloc (Nat.le_refl _) o)
theorem Bx.set {w : World} {b : Nat} {vs : List Value} (h : Bx w b vs) (k : Nat) (hk : k < vs.length) (v : Value) : Bx (w.setCell ⟨b, k, none⟩ v) b (vs.set k v) := by
  refine ⟨by simpa using h.lt, fun i hi => ?_, fun j => by simpa using h.fz j⟩
  have hi' : i < vs.length := by simpa using hi
  by_cases e : i = k
  · subst e
    rw [List.getElem?_set_self hi']
    have := h.c i hi'
    rw [List.getElem?_eq_getElem hi'] at this
    exact World.cell?_setCell_same _ _ _ this
  · rw [List.getElem?_set_ne (by omega)]
    exact (World.cell?_setCell_other _ _ _ _ (by simp <;> omega)).trans (h.c i hi')
theorem Bx.far {w : World} {b b' k : Nat} {vs : List Value} (h : Bx w b vs) (v : Value) (hn : b ≠ b') : Bx (w.setCell ⟨b', k, none⟩ v) b vs := by
  have e := Below.heap_setCell w ⟨b', k, none⟩ v b hn
  exact ⟨by simpa using h.lt, fun i hi => (cell_same e _).trans (h.c i hi), fun j => (frozen_same e j).trans (h.fz j)⟩
theorem lq_set {w : World} {lo hi : Nat} {a : Option Addr} {n : Nat} {F : Nat → Int} (h : LQ w lo hi a n F) {b k : Nat} (v : Value) (hn : b < lo ∨ hi ≤ b) : LQ (w.setCell ⟨b, k, none⟩ v) lo hi a n F :=
  h.only (lo' := b) (hi' := b + 1) (OnlyIn.of ((Only.refl b w).set k v) (Nat.le_refl _) (Nat.lt_succ_self _)) (by omega)
theorem below_al {w w' : World} {o : Obj} (h : Below (w.alloc o).heap.size (w.alloc o) w') : Below w.heap.size w w' := ((Below.refl _ _).alloc (Nat.le_refl _) o).trans (h.mono (by simp))
theorem IL.alloc {w : World} {a : Option Addr} {len : Nat} {f : Nat → Int} (h : IL w a len f) (o : Obj) : IL (w.alloc o) a len f := h.below ((Below.refl w.heap.size w).alloc (Nat.le_refl _) o)
theorem size_set (w : World) (p : Addr) (v : Value) : (w.setCell p v).heap.size = w.heap.size := by simp
theorem size_al (w : World) (o : Obj) : (w.alloc o).heap.size = w.heap.size + 1 := by simp
end Go.Proofs.YtmlfijapndkfhaaDoor
namespace Go.Proofs.YtmlfijapndkfhaaDoor
theorem Bx.turns {w w' : World} {lo hi b : Nat} {vs : List Value} (h : Bx w b vs) (k : Turns lo hi w w') (hd : b < lo ∨ hi ≤ b) : Bx w' b vs :=
  ⟨Nat.lt_of_lt_of_le h.lt k.size, fun i hi => (cell_same (k.block b h.lt hd) _).trans (h.c i hi), fun j => (frozen_same (k.block b h.lt hd) j).trans (h.fz j)⟩
end Go.Proofs.YtmlfijapndkfhaaDoor
