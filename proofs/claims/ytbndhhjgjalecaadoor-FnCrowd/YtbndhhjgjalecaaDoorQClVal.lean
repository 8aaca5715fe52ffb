/- Lists of ints in memory: what a block holds, and what stands behind a call. Imports nothing of the program but its rows. -/
import Derived.Test.YtbndhhjgjalecaaDoorRows
import Derived.WalkKit
import Derived.Deep.QuietTactic
import Derived.BigQuiet
import Derived.BigRegion
import Derived.Deep.RegionHeld3
import Derived.Deep.Draws
import Derived.Deep.OwnRows
import Derived.Laws.NewFold
import Derived.Laws.OwnMore
import Derived.Laws.AppendOwn
import Derived.Laws.ResultCell
import Derived.OwnWalk
import Derived.Maps.AppendAt
import Derived.Below
import Derived.Handy
namespace Go.Proofs.YtbndhhjgjalecaaDoor
open Go.RowKit

theorem below_dr {B : Nat} {a w : World} (h : Below B a w) (n : Nat) : Below B a (w.drewN n) := ⟨h.os, h.tape, h.output, h.size, h.block⟩
theorem below_of {w w' : World} {n : Nat} (h : w' = w.drewN n) : Below w.heap.size w w' := by subst h; exact below_dr (Below.refl _ _) n
theorem rowIs_below {w w' : World} {B b n : Nat} {t : TypeId} {f : Nat → Value} (h : w.rowIs b t n f) (k : Below B w w') (hb : b < B) : w'.rowIs b t n f := h.of_block (k.block b hb)
theorem stepA {W w1 w2 : World} (h : Below W.heap.size W w1) (k : Below w1.heap.size w1 w2) : Below W.heap.size W w2 := h.trans (k.mono h.size)

/-- the ints of a slice by their index -/
def IL (w : World) (a : Option Addr) (len : Nat) (f : Nat → Int) : Prop :=
  0 < len → ∃ b off, a = some ⟨b, off, none⟩ ∧ b < w.heap.size ∧ ∀ i, i < len → w.cell? ⟨b, off + i, none⟩ = some (.int .i64 (f i))
theorem IL.below {w w' : World} {a : Option Addr} {len : Nat} {f : Nat → Int} (h : IL w a len f) (hb : Below w.heap.size w w') : IL w' a len f := fun hl => by
  obtain ⟨b, off, rfl, hbw, hc⟩ := h hl
  exact ⟨b, off, rfl, Nat.lt_of_lt_of_le hbw hb.size, fun i hi => (hb.cell (p := ⟨b, off + i, none⟩) hbw).trans (hc i hi)⟩
theorem IL.congr {w : World} {a : Option Addr} {len : Nat} {f g : Nat → Int} (h : IL w a len f) (e : ∀ i, i < len → f i = g i) : IL w a len g := fun hl => by
  obtain ⟨b, off, ha, hbw, hc⟩ := h hl
  exact ⟨b, off, ha, hbw, fun i hi => by rw [← e i hi]; exact hc i hi⟩
theorem IL.none (w : World) (f : Nat → Int) : IL w none 0 f := fun h => absurd h (Nat.lt_irrefl _)

/-- a row of ints -/
def iRow (f : Nat → Int) (i : Nat) : Value := .int .i64 (f i)
theorem row_il {w : World} {b len : Nat} {f : Nat → Int} (h : w.rowIs b 3 len (iRow f)) : IL w (some ⟨b, 0, none⟩) len f :=
  fun _ => ⟨b, 0, rfl, h.lt, fun i hi => by rw [Nat.zero_add]; exact h.cell hi⟩

/-- block b alone has turned -/
structure Only (b : Nat) (w w' : World) : Prop where
  os : w'.os = w.os
  tape : w'.tape = w.tape
  output : w'.output = w.output
  size : w'.heap.size = w.heap.size
  block : ∀ k, k ≠ b → w'.heap[k]? = w.heap[k]?
theorem Only.refl (b : Nat) (w : World) : Only b w w := ⟨rfl, rfl, rfl, rfl, fun _ _ => rfl⟩
theorem Only.set {b : Nat} {w w' : World} (h : Only b w w') (j : Nat) (u : Value) : Only b w (w'.setCell ⟨b, j, none⟩ u) :=
  ⟨h.os, h.tape, h.output, by simpa using h.size, fun k hk => (Below.heap_setCell w' ⟨b, j, none⟩ u k hk).trans (h.block k hk)⟩
theorem Only.below {b : Nat} {w w' : World} (h : Only b w w') : Below b w w' := ⟨h.os, h.tape, h.output, Nat.le_of_eq h.size.symm, fun k hk => h.block k (Nat.ne_of_lt hk)⟩
theorem row_only {w w' : World} {b b' n : Nat} {t : TypeId} {f : Nat → Value} (h : w.rowIs b t n f) (k : Only b' w w') (hn : b ≠ b') : w'.rowIs b t n f := h.of_block (k.block b hn)

theorem Only.drew {b : Nat} {w w' : World} (h : Only b w w') : Only b w w'.drew := ⟨h.os, h.tape, h.output, h.size, h.block⟩
theorem Only.trans {b : Nat} {w w' w'' : World} (h : Only b w w') (k : Only b w' w'') : Only b w w'' := ⟨k.os.trans h.os, k.tape.trans h.tape, k.output.trans h.output, k.size.trans h.size, fun c hc => (k.block c hc).trans (h.block c hc)⟩
theorem infoI : (Tryd.prog.info? 3).map (fun i => (i.zero, i.size, i.bytes)) = some (some (.int .i64 0), 1, 8) := by kernel_rfl

/-- block b holds n ints and may be written -/
structure IP (w : World) (b n : Nat) (F : Nat → Int) : Prop where
  lt : b < w.heap.size
  c : ∀ i, i < n → w.cell? ⟨b, i, none⟩ = some (.int .i64 (F i))
  fz : ∀ j, w.frozen? ⟨b, j, none⟩ = false
theorem IP.below {w w' : World} {B b n : Nat} {F : Nat → Int} (h : IP w b n F) (k : Below B w w') (hB : b < B) : IP w' b n F :=
  ⟨Nat.lt_of_lt_of_le h.lt k.size, fun i hi => (k.cell (p := ⟨b, _, none⟩) hB).trans (h.c i hi), fun j => (k.frozen (p := ⟨b, j, none⟩) hB).trans (h.fz j)⟩
theorem IP.congr {w : World} {b n : Nat} {F G : Nat → Int} (h : IP w b n F) (e : ∀ i, i < n → F i = G i) : IP w b n G :=
  ⟨h.lt, fun i hi => by rw [← e i hi]; exact h.c i hi, h.fz⟩
theorem IP.il {w : World} {b n : Nat} {F : Nat → Int} (h : IP w b n F) : IL w (some ⟨b, 0, none⟩) n F :=
  fun _ => ⟨b, 0, rfl, h.lt, fun i hi => by rw [Nat.zero_add]; exact h.c i hi⟩
theorem cell_same {w w' : World} {b : Nat} (e : w'.heap[b]? = w.heap[b]?) (j : Nat) : w'.cell? ⟨b, j, none⟩ = w.cell? ⟨b, j, none⟩ := World.cell?_of_block (w := w) e
theorem frozen_same {w w' : World} {b : Nat} (e : w'.heap[b]? = w.heap[b]?) (j : Nat) : w'.frozen? ⟨b, j, none⟩ = w.frozen? ⟨b, j, none⟩ := World.frozen?_of_block (w := w) e
theorem IP.only {w w' : World} {b b' n : Nat} {F : Nat → Int} (h : IP w b n F) (k : Only b' w w') (hn : b ≠ b') : IP w' b n F :=
  ⟨by rw [k.size]; exact h.lt, fun i hi => (cell_same (k.block b hn) _).trans (h.c i hi), fun j => (frozen_same (k.block b hn) j).trans (h.fz j)⟩
theorem row_ip {w : World} {b n : Nat} {F : Nat → Int} (h : w.rowIs b 3 n (iRow F)) : IP w b n F := ⟨h.lt, fun _ hi => h.cell hi, fun j => h.frozen j⟩
def put (f : Nat → Int) (k : Nat) (v : Int) (i : Nat) : Int := if i = k then v else f i
theorem IP.set {w : World} {b n : Nat} {F : Nat → Int} (h : IP w b n F) {k : Nat} (hk : k < n) (u : Int) : IP (w.setCell ⟨b, k, none⟩ (.int .i64 u)) b n (put F k u) := by
  refine ⟨by simpa using h.lt, fun i hi => ?_, fun j => by simpa using h.fz j⟩
  unfold put
  by_cases e : i = k
  · subst e; rw [if_pos rfl]; exact World.cell?_setCell_same _ _ _ (h.c i hi)
  · rw [if_neg e]; exact (World.cell?_setCell_other _ _ _ _ (by simp <;> omega)).trans (h.c i hi)

/-- the first k ints as cells -/
def vL (F : Nat → Int) (k : Nat) : List Value := (List.range k).map fun i => .int .i64 (F i)
theorem vL_len (F : Nat → Int) (k : Nat) : (vL F k).length = k := by simp [vL]
theorem vL_get {F : Nat → Int} {k i : Nat} (h : i < k) : (vL F k)[i]? = some (.int .i64 (F i)) := by simp [vL, h]
theorem vL_succ (F : Nat → Int) (k : Nat) : vL F (k + 1) = vL F k ++ [.int .i64 (F k)] := by simp [vL, List.range_succ]

/-- the slice v is the call's own, with F's first k ints -/
def Own (w : World) (base : Nat) (v : Value) (k : Nat) (F : Nat → Int) : Prop := w.ownsRow base 3 1 v k (vL F k)
theorem Own.some {w : World} {base : Nat} {v : Value} {k : Nat} {F : Nat → Int} (h : Own w base v k F) (hk : 0 < k) : ∃ g cap, v = .slice (some ⟨g, 0, none⟩) k cap ∧ base ≤ g ∧ IP w g k F := by
  have h' := h
  obtain ⟨_, h0 | ⟨g, cap, cur, rfl, h2, h3, _⟩⟩ := h
  · omega
  · have hlt : g < w.heap.size := (Array.getElem?_eq_some_iff.1 h3).1
    refine ⟨g, cap, rfl, h2, hlt, fun i hi => ?_, fun j => World.ownsRow.frozenAt h' j⟩
    rw [World.ownsRow.cellAt h' i (by omega)]; exact vL_get hi
theorem Own.below {w w' : World} {base : Nat} {v : Value} {k : Nat} {F : Nat → Int} (h : Own w base v k F) (b : Below w.heap.size w w') : Own w' base v k F := by
  obtain ⟨hl, h⟩ := h
  refine ⟨hl, ?_⟩
  rcases h with h | ⟨g, cap, cur, h1, h2, h3, h4⟩
  · exact .inl h
  · have hg : g < w.heap.size := (Array.getElem?_eq_some_iff.1 h3).1
    exact .inr ⟨g, cap, cur, h1, h2, (b.block g hg).trans h3, h4⟩
theorem lit_ip (w : World) (xs : List Int) (t : TypeId) : IP (w.alloc (.cells (xs.map (Value.int .i64)).toArray t)) w.heap.size xs.length (fun i => xs.getD i 0) := by
  have hr := World.rowIs_alloc w (xs.map (Value.int .i64)).toArray t (fun i => .int .i64 (xs.getD i 0)) (by
    intro i hi
    have hi' : i < xs.length := by simpa using hi
    simp [hi', List.getD])
  have hs : (xs.map (Value.int .i64)).toArray.size = xs.length := by simp
  rw [hs] at hr
  exact ⟨hr.lt, fun _ hi => hr.cell hi, fun j => hr.frozen j⟩
theorem Own.only {w w' : World} {base b : Nat} {v : Value} {k : Nat} {F : Nat → Int} (h : Own w base v k F) (o : Only b w w') (hb : b < base) : Own w' base v k F := by
  obtain ⟨hl, h⟩ := h
  refine ⟨hl, ?_⟩
  rcases h with h | ⟨g, cap, cur, h1, h2, h3, h4⟩
  · exact .inl h
  · exact .inr ⟨g, cap, cur, h1, h2, (o.block g (by omega)).trans h3, h4⟩
theorem Own.shape {w : World} {base : Nat} {v : Value} {k : Nat} {F : Nat → Int} (h : Own w base v k F) : ∃ a cap, v = .slice a k cap := by
  obtain ⟨_, ⟨rfl, rfl⟩ | ⟨g, cap, cur, rfl, _⟩⟩ := h
  · exact ⟨_, _, rfl⟩
  · exact ⟨_, _, rfl⟩
theorem Own.il {w : World} {base : Nat} {a : Option Addr} {k c : Nat} {F : Nat → Int} (h : Own w base (.slice a k c) k F) : IL w a k F := fun h0 => by
  obtain ⟨g, cap, e, _, hP⟩ := h.some h0
  cases e
  exact hP.il h0
theorem vL_put (F : Nat → Int) (k : Nat) (x : Int) : vL (put F k x) (k + 1) = vL F k ++ [.int .i64 x] := by
  rw [vL_succ]
  congr 1
  · unfold vL
    refine List.map_congr_left fun i hi => ?_
    have : i ≠ k := by have := List.mem_range.1 hi; omega
    simp [put, this]
  · simp [put]
theorem own_put {w : World} {base : Nat} {v : Value} {k : Nat} {F : Nat → Int} {x : Int} (h : w.ownsRow base 3 1 v (k + 1) (vL F k ++ [.int .i64 x])) : Own w base v (k + 1) (put F k x) := by
  unfold Own; rw [vL_put]; exact h
theorem ret_bool {a b : Bool} (h : a = b) : Ending.returned (.bool a) = .returned (.bool b) := by rw [h]
theorem ret_int {a b : Int} (h : a = b) : Ending.returned (.int .i64 a) = .returned (.int .i64 b) := by rw [h]
end Go.Proofs.YtbndhhjgjalecaaDoor

/- Lists of a call's own by the range of blocks in which they lie; boxes of some cells. -/
namespace Go.Proofs.YtbndhhjgjalecaaDoor
open Go.RowKit

/-- blocks from lo on, below hi, alone have turned -/
structure OnlyIn (lo hi : Nat) (w w' : World) : Prop where
  os : w'.os = w.os
  tape : w'.tape = w.tape
  output : w'.output = w.output
  size : w'.heap.size = w.heap.size
  block : ∀ k, (k < lo ∨ hi ≤ k) → w'.heap[k]? = w.heap[k]?
theorem OnlyIn.refl (lo hi : Nat) (w : World) : OnlyIn lo hi w w := ⟨rfl, rfl, rfl, rfl, fun _ _ => rfl⟩
theorem OnlyIn.of {b lo hi : Nat} {w w' : World} (h : Only b w w') (h0 : lo ≤ b) (h1 : b < hi) : OnlyIn lo hi w w' :=
  ⟨h.os, h.tape, h.output, h.size, fun k hk => h.block k (by omega)⟩
theorem OnlyIn.below {lo hi : Nat} {w w' : World} (h : OnlyIn lo hi w w') : Below lo w w' := ⟨h.os, h.tape, h.output, Nat.le_of_eq h.size.symm, fun k hk => h.block k (.inl hk)⟩
theorem OnlyIn.wide {lo hi lo' hi' : Nat} {w w' : World} (h : OnlyIn lo hi w w') (h0 : lo' ≤ lo) (h1 : hi ≤ hi') : OnlyIn lo' hi' w w' :=
  ⟨h.os, h.tape, h.output, h.size, fun k hk => h.block k (by omega)⟩
theorem OnlyIn.trans {lo hi : Nat} {w w' w'' : World} (h : OnlyIn lo hi w w') (k : OnlyIn lo hi w' w'') : OnlyIn lo hi w w'' :=
  ⟨k.os.trans h.os, k.tape.trans h.tape, k.output.trans h.output, k.size.trans h.size, fun c hc => (k.block c hc).trans (h.block c hc)⟩

/-- a list of ints that lies in one block from lo on, below hi, and may be written -/
def LQ (w : World) (lo hi : Nat) (a : Option Addr) (n : Nat) (F : Nat → Int) : Prop :=
  0 < n → ∃ b, a = some ⟨b, 0, none⟩ ∧ lo ≤ b ∧ b < hi ∧ IP w b n F
theorem LQ.il {w : World} {lo hi : Nat} {a : Option Addr} {n : Nat} {F : Nat → Int} (h : LQ w lo hi a n F) : IL w a n F := fun h0 => by
  obtain ⟨b, rfl, _, _, hP⟩ := h h0
  exact hP.il h0
theorem LQ.on {w w' : World} {lo hi : Nat} {a : Option Addr} {n : Nat} {F : Nat → Int} (h : LQ w lo hi a n F) (k : Below w.heap.size w w') : LQ w' lo hi a n F := fun h0 => by
  obtain ⟨b, rfl, h1, h2, hP⟩ := h h0
  exact ⟨b, rfl, h1, h2, hP.below k hP.lt⟩
theorem LQ.below {w w' : World} {B lo hi : Nat} {a : Option Addr} {n : Nat} {F : Nat → Int} (h : LQ w lo hi a n F) (k : Below B w w') (hB : hi ≤ B) : LQ w' lo hi a n F := fun h0 => by
  obtain ⟨b, rfl, h1, h2, hP⟩ := h h0
  exact ⟨b, rfl, h1, h2, hP.below k (by omega)⟩
theorem LQ.only {w w' : World} {lo hi lo' hi' : Nat} {a : Option Addr} {n : Nat} {F : Nat → Int} (h : LQ w lo hi a n F) (k : OnlyIn lo' hi' w w') (hd : hi ≤ lo' ∨ hi' ≤ lo) : LQ w' lo hi a n F := fun h0 => by
  obtain ⟨b, rfl, h1, h2, hP⟩ := h h0
  have e := k.block b (by omega)
  exact ⟨b, rfl, h1, h2, by rw [k.size]; exact hP.lt, fun i hi => (cell_same e _).trans (hP.c i hi), fun j => (frozen_same e j).trans (hP.fz j)⟩
theorem LQ.congr {w : World} {lo hi : Nat} {a : Option Addr} {n : Nat} {F G : Nat → Int} (h : LQ w lo hi a n F) (e : ∀ i, i < n → F i = G i) : LQ w lo hi a n G := fun h0 => by
  obtain ⟨b, rfl, h1, h2, hP⟩ := h h0
  exact ⟨b, rfl, h1, h2, hP.congr e⟩
theorem LQ.wide {w : World} {lo hi lo' hi' : Nat} {a : Option Addr} {n : Nat} {F : Nat → Int} (h : LQ w lo hi a n F) (h0 : lo' ≤ lo) (h1 : hi ≤ hi') : LQ w lo' hi' a n F := fun hn => by
  obtain ⟨b, rfl, h2, h3, hP⟩ := h hn
  exact ⟨b, rfl, by omega, by omega, hP⟩
theorem lq_none (w : World) (lo hi : Nat) (a : Option Addr) (F : Nat → Int) : LQ w lo hi a 0 F := fun h => absurd h (Nat.lt_irrefl _)
theorem lq_of {w : World} {b lo hi n : Nat} {F : Nat → Int} (h : IP w b n F) (h0 : lo ≤ b) (h1 : b < hi) : LQ w lo hi (some ⟨b, 0, none⟩) n F := fun _ => ⟨b, rfl, h0, h1, h⟩
theorem Own.lq {w : World} {base : Nat} {a : Option Addr} {k c : Nat} {F : Nat → Int} (h : Own w base (.slice a k c) k F) : LQ w base w.heap.size a k F := fun h0 => by
  obtain ⟨g, cap, e, hg, hP⟩ := h.some h0
  cases e
  exact ⟨g, rfl, hg, hP.lt, hP⟩

/-- of the blocks that there were, those from lo on, below hi, alone have turned -/
structure Turns (lo hi : Nat) (w w' : World) : Prop where
  os : w'.os = w.os
  tape : w'.tape = w.tape
  output : w'.output = w.output
  size : w.heap.size ≤ w'.heap.size
  block : ∀ k, k < w.heap.size → (k < lo ∨ hi ≤ k) → w'.heap[k]? = w.heap[k]?
theorem OnlyIn.turns {lo hi : Nat} {w w' : World} (h : OnlyIn lo hi w w') : Turns lo hi w w' := ⟨h.os, h.tape, h.output, Nat.le_of_eq h.size.symm, fun k _ hk => h.block k hk⟩
theorem turns_of {lo hi : Nat} {w w' : World} (h : Below w.heap.size w w') : Turns lo hi w w' := ⟨h.os, h.tape, h.output, h.size, fun k hk _ => h.block k hk⟩
theorem Turns.trans {lo hi : Nat} {w w' w'' : World} (h : Turns lo hi w w') (k : Turns lo hi w' w'') : Turns lo hi w w'' :=
  ⟨k.os.trans h.os, k.tape.trans h.tape, k.output.trans h.output, Nat.le_trans h.size k.size, fun c h1 hc => (k.block c (Nat.lt_of_lt_of_le h1 h.size) hc).trans (h.block c h1 hc)⟩
theorem Turns.wide {lo hi lo' hi' : Nat} {w w' : World} (h : Turns lo hi w w') (h0 : lo' ≤ lo) (h1 : hi ≤ hi') : Turns lo' hi' w w' :=
  ⟨h.os, h.tape, h.output, h.size, fun k h2 hk => h.block k h2 (by omega)⟩
theorem Turns.below {lo hi B : Nat} {w w' : World} (h : Turns lo hi w w') (h0 : B ≤ lo) (h1 : B ≤ w.heap.size) : Below B w w' := ⟨h.os, h.tape, h.output, h.size, fun k hk => h.block k (by omega) (by omega)⟩
theorem LQ.turns {w w' : World} {lo hi lo' hi' : Nat} {a : Option Addr} {n : Nat} {F : Nat → Int} (h : LQ w lo hi a n F) (k : Turns lo' hi' w w') (hd : hi ≤ lo' ∨ hi' ≤ lo) : LQ w' lo hi a n F := fun h0 => by
  obtain ⟨b, rfl, h1, h2, hP⟩ := h h0
  have e := k.block b hP.lt (by omega)
  exact ⟨b, rfl, h1, h2, Nat.lt_of_lt_of_le hP.lt k.size, fun i hi => (cell_same e _).trans (hP.c i hi), fun j => (frozen_same e j).trans (hP.fz j)⟩

/-- a block of some cells that may be written -/
structure Bx (w : World) (b : Nat) (vs : List Value) : Prop where
  lt : b < w.heap.size
  c : ∀ i, i < vs.length → w.cell? ⟨b, i, none⟩ = vs[i]?
  fz : ∀ j, w.frozen? ⟨b, j, none⟩ = false
theorem Bx.c0 {w : World} {b : Nat} {v : Value} {l : List Value} (h : Bx w b (v :: l)) : w.cell? ⟨b, 0, none⟩ = some v := h.c 0 (by simp)
theorem Bx.c1 {w : World} {b : Nat} {u v : Value} {l : List Value} (h : Bx w b (u :: v :: l)) : w.cell? ⟨b, 1, none⟩ = some v := h.c 1 (by simp)
theorem Bx.c2 {w : World} {b : Nat} {t u v : Value} {l : List Value} (h : Bx w b (t :: u :: v :: l)) : w.cell? ⟨b, 2, none⟩ = some v := h.c 2 (by simp)
theorem Bx.below {w w' : World} {B b : Nat} {vs : List Value} (h : Bx w b vs) (k : Below B w w') (hB : b < B) : Bx w' b vs :=
  ⟨Nat.lt_of_lt_of_le h.lt k.size, fun i hi => (k.cell (p := ⟨b, _, none⟩) hB).trans (h.c i hi), fun j => (k.frozen (p := ⟨b, j, none⟩) hB).trans (h.fz j)⟩
theorem Bx.on {w w' : World} {b : Nat} {vs : List Value} (h : Bx w b vs) (k : Below w.heap.size w w') : Bx w' b vs := h.below k h.lt
theorem Bx.only {w w' : World} {lo hi b : Nat} {vs : List Value} (h : Bx w b vs) (k : OnlyIn lo hi w w') (hd : b < lo ∨ hi ≤ b) : Bx w' b vs :=
  ⟨by rw [k.size]; exact h.lt, fun i hi => (cell_same (k.block b hd) _).trans (h.c i hi), fun j => (frozen_same (k.block b hd) j).trans (h.fz j)⟩
theorem bx_new {w : World} {b : Nat} (vs : List Value) (t : TypeId) (hb : b = w.heap.size) : Bx (w.alloc (.cells vs.toArray t)) b vs := by
  subst hb
  have hr := World.rowIs_alloc w vs.toArray t (fun i => (vs[i]?).getD undef) (by
    intro i hi
    have hi' : i < vs.length := by simpa using hi
    simp [hi'])
  have hs : vs.toArray.size = vs.length := by simp
  rw [hs] at hr
  exact ⟨hr.lt, fun i hi => by rw [hr.cell hi]; simp [hi], fun j => hr.frozen j⟩
theorem Bx.alloc {w : World} {b : Nat} {vs : List Value} (h : Bx w b vs) (o : Obj) : Bx (w.alloc o) b vs := h.on ((Below.refl w.heap.size w).alloc (Nat.le_refl _) o)
theorem Bx.set {w : World} {b : Nat} {vs : List Value} (h : Bx w b vs) (k : Nat) (hk : k < vs.length) (v : Value) : Bx (w.setCell ⟨b, k, none⟩ v) b (vs.set k v) := by
  refine ⟨by simpa using h.lt, fun i hi => ?_, fun j => by simpa using h.fz j⟩
  have hi' : i < vs.length := by simpa using hi
  by_cases e : i = k
  · subst e
    rw [List.getElem?_set_self hi']
    have := h.c i hi'
    rw [List.getElem?_eq_getElem hi'] at this
    exact World.cell?_setCell_same _ _ _ this
  · rw [List.getElem?_set_ne (by omega)]
    exact (World.cell?_setCell_other _ _ _ _ (by simp <;> omega)).trans (h.c i hi')
theorem Bx.far {w : World} {b b' k : Nat} {vs : List Value} (h : Bx w b vs) (v : Value) (hn : b ≠ b') : Bx (w.setCell ⟨b', k, none⟩ v) b vs := by
  have e := Below.heap_setCell w ⟨b', k, none⟩ v b hn
  exact ⟨by simpa using h.lt, fun i hi => (cell_same e _).trans (h.c i hi), fun j => (frozen_same e j).trans (h.fz j)⟩
theorem lq_set {w : World} {lo hi : Nat} {a : Option Addr} {n : Nat} {F : Nat → Int} (h : LQ w lo hi a n F) {b k : Nat} (v : Value) (hn : b < lo ∨ hi ≤ b) : LQ (w.setCell ⟨b, k, none⟩ v) lo hi a n F :=
  h.only (lo' := b) (hi' := b + 1) (OnlyIn.of ((Only.refl b w).set k v) (Nat.le_refl _) (Nat.lt_succ_self _)) (by omega)
theorem below_al {w w' : World} {o : Obj} (h : Below (w.alloc o).heap.size (w.alloc o) w') : Below w.heap.size w w' := ((Below.refl _ _).alloc (Nat.le_refl _) o).trans (h.mono (by simp))
theorem IL.alloc {w : World} {a : Option Addr} {len : Nat} {f : Nat → Int} (h : IL w a len f) (o : Obj) : IL (w.alloc o) a len f := h.below ((Below.refl w.heap.size w).alloc (Nat.le_refl _) o)
theorem size_set (w : World) (p : Addr) (v : Value) : (w.setCell p v).heap.size = w.heap.size := by simp
theorem size_al (w : World) (o : Obj) : (w.alloc o).heap.size = w.heap.size + 1 := by simp
end Go.Proofs.YtbndhhjgjalecaaDoor
namespace Go.Proofs.YtbndhhjgjalecaaDoor
theorem Bx.turns {w w' : World} {lo hi b : Nat} {vs : List Value} (h : Bx w b vs) (k : Turns lo hi w w') (hd : b < lo ∨ hi ≤ b) : Bx w' b vs :=
  ⟨Nat.lt_of_lt_of_le h.lt k.size, fun i hi => (cell_same (k.block b h.lt hd) _).trans (h.c i hi), fun j => (frozen_same (k.block b h.lt hd) j).trans (h.fz j)⟩
end Go.Proofs.YtbndhhjgjalecaaDoor

/- Cells as a value. -/
namespace Go.Proofs.YtbndhhjgjalecaaDoor
open Go.RowKit

/-- cells as a value -/
abbrev cel (W : Int) (a : Option Addr) (n c : Nat) : Value := .agg #[.int .i64 W, .slice a n c]
abbrev celL (W : Int) (a : Option Addr) (n c : Nat) : List Value := [.int .i64 W, .slice a n c]
abbrev celO (W : Int) (a : Option Addr) (n c : Nat) (t : TypeId) : Obj := .cells #[.int .i64 W, .slice a n c] t
theorem lq_zero (w : World) (lo hi : Nat) (F : Nat → Int) : LQ w lo hi none 0 F := lq_none _ _ _ _ _

/-- a return of cells out of their box -/
theorem ret_cel {fn : Func} {t : Tmp} {R : Ending → World → Prop} {a : Act} {w : World} {b : Nat} {u v : Value} (h : fn.results = #[.cell t 25]) (hp : a.tmps.getD t undef = .pointer (some ⟨b, 0, none⟩)) (c0 : w.cell? ⟨b, 0, none⟩ = some u) (c1 : w.cell? ⟨b, 1, none⟩ = some v) (hd : a.defers = [])
    (hR : R (.returned (.agg #[u, v])) w) : bodyPost Tryd.prog fn R .ret a w := by
  refine bodyPost_ret ?_ hd hR
  have hp' : a.tmps[t]?.getD undef = .pointer (some ⟨b, 0, none⟩) := by simpa using hp
  simp [results, h, hp', asAddr, loadVar, go_sem, c0, c1]

end Go.Proofs.YtbndhhjgjalecaaDoor
