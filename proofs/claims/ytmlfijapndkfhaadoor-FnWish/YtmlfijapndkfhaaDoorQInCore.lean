/- Lists of ints in memory: what a block holds, and what stands behind a call. Imports nothing of the program but its rows. -/
import Derived.Test.YtmlfijapndkfhaaDoorRows
import Derived.WalkKit
import Derived.Deep.QuietTactic
import Derived.BigQuiet
import Derived.BigRegion
import Derived.Deep.RegionHeld3
import Derived.Deep.Draws
import Derived.Deep.OwnRows
import Derived.Laws.NewFold
import Derived.Laws.OwnMore
import Derived.Laws.AppendOwn
import Derived.Laws.ResultCell
import Derived.OwnWalk
import Derived.Maps.AppendAt
import Derived.Below
import Derived.Handy
namespace Go.Proofs.YtmlfijapndkfhaaDoor
open Go.RowKit

theorem below_dr {B : Nat} {a w : World} (h : Below B a w) (n : Nat) : Below B a (w.drewN n) := ⟨h.os, h.tape, h.output, h.size, h.block⟩
theorem below_of {w w' : World} {n : Nat} (h : w' = w.drewN n) : Below w.heap.size w w' := by subst h; exact below_dr (Below.refl _ _) n
theorem rowIs_below {w w' : World} {B b n : Nat} {t : TypeId} {f : Nat → Value} (h : w.rowIs b t n f) (k : Below B w w') (hb : b < B) : w'.rowIs b t n f := h.of_block (k.block b hb)
theorem stepA {W w1 w2 : World} (h : Below W.heap.size W w1) (k : Below w1.heap.size w1 w2) : Below W.heap.size W w2 := h.trans (k.mono h.size)

/-- the ints of a slice by their index -/
def IL (w : World) (a : Option Addr) (len : Nat) (f : Nat → Int) : Prop :=
  0 < len → ∃ b off, a = some ⟨b, off, none⟩ ∧ b < w.heap.size ∧ ∀ i, i < len → w.cell? ⟨b, off + i, none⟩ = some (.int .i64 (f i))
theorem IL.below {w w' : World} {a : Option Addr} {len : Nat} {f : Nat → Int} (h : IL w a len f) (hb : Below w.heap.size w w') : IL w' a len f := fun hl => by
  obtain ⟨b, off, rfl, hbw, hc⟩ := h hl
  exact ⟨b, off, rfl, Nat.lt_of_lt_of_le hbw hb.size, fun i hi => (hb.cell (p := ⟨b, off + i, none⟩) hbw).trans (hc i hi)⟩
theorem IL.congr {w : World} {a : Option Addr} {len : Nat} {f g : Nat → Int} (h : IL w a len f) (e : ∀ i, i < len → f i = g i) : IL w a len g := fun hl => by
  obtain ⟨b, off, ha, hbw, hc⟩ := h hl
  exact ⟨b, off, ha, hbw, fun i hi => by rw [← e i hi]; exact hc i hi⟩
theorem IL.none (w : World) (f : Nat → Int) : IL w none 0 f := fun h => absurd h (Nat.lt_irrefl _)

/-- a row of ints -/
def iRow (f : Nat → Int) (i : Nat) : Value := .int .i64 (f i)
theorem row_il {w : World} {b len : Nat} {f : Nat → Int} (h : w.rowIs b 3 len (iRow f)) : IL w (some ⟨b, 0, none⟩) len f :=
  fun _ => ⟨b, 0, rfl, h.lt, fun i hi => by rw [Nat.zero_add]; exact h.cell hi⟩

/-- block b alone has turned -/
structure Only (b : Nat) (w w' : World) : Prop where
  os : w'.os = w.os
  tape : w'.tape = w.tape
  output : w'.output = w.output
  size : w'.heap.size = w.heap.size
  block : ∀ k, k ≠ b → w'.heap[k]? = w.heap[k]?
theorem Only.refl (b : Nat) (w : World) : Only b w w := ⟨rfl, rfl, rfl, rfl, fun _ _ => rfl⟩
theorem Only.set {b : Nat} {w w' : World} (h : Only b w w') (j : Nat) (u : Value) : Only b w (w'.setCell ⟨b, j, none⟩ u) :=
  ⟨h.os, h.tape, h.output, by simpa using h.size, fun k hk => (Below.heap_setCell w' ⟨b, j, none⟩ u k hk).trans (h.block k hk)⟩
theorem Only.below {b : Nat} {w w' : World} (h : Only b w w') : Below b w w' := ⟨h.os, h.tape, h.output, Nat.le_of_eq h.size.symm, fun k hk => h.block k (Nat.ne_of_lt hk)⟩
theorem row_only {w w' : World} {b b' n : Nat} {t : TypeId} {f : Nat → Value} (h : w.rowIs b t n f) (k : Only b' w w') (hn : b ≠ b') : w'.rowIs b t n f := h.of_block (k.block b hn)

theorem Only.drew {b : Nat} {w w' : World} (h : Only b w w') : Only b w w'.drew := ⟨h.os, h.tape, h.output, h.size, h.block⟩
theorem Only.trans {b : Nat} {w w' w'' : World} (h : Only b w w') (k : Only b w' w'') : Only b w w'' := ⟨k.os.trans h.os, k.tape.trans h.tape, k.output.trans h.output, k.size.trans h.size, fun c hc => (k.block c hc).trans (h.block c hc)⟩
theorem infoI : (Tryd.prog.info? 3).map (fun i => (i.zero, i.size, i.bytes)) = some (some (.int .i64 0), 1, 8) := by kernel_rfl

/-- block b holds n ints and may be written -/
structure IP (w : World) (b n : Nat) (F : Nat → Int) : Prop where
  lt : b < w.heap.size
  c : ∀ i, i < n → w.cell? ⟨b, i, none⟩ = some (.int .i64 (F i))
  fz : ∀ j, w.frozen? ⟨b, j, none⟩ = false
theorem IP.below {w w' : World} {B b n : Nat} {F : Nat → Int} (h : IP w b n F) (k : Below B w w') (hB : b < B) : IP w' b n F :=
  ⟨Nat.lt_of_lt_of_le h.lt k.size, fun i hi => (k.cell (p := ⟨b, _, none⟩) hB).trans (h.c i hi), fun j => (k.frozen (p := ⟨b, j, none⟩) hB).trans (h.fz j)⟩
theorem IP.congr {w : World} {b n : Nat} {F G : Nat → Int} (h : IP w b n F) (e : ∀ i, i < n → F i = G i) : IP w b n G :=
  ⟨h.lt, fun i hi => by rw [← e i hi]; exact h.c i hi, h.fz⟩
theorem IP.il {w : World} {b n : Nat} {F : Nat → Int} (h : IP w b n F) : IL w (some ⟨b, 0, none⟩) n F :=
  fun _ => ⟨b, 0, rfl, h.lt, fun i hi => by rw [Nat.zero_add]; exact h.c i hi⟩
theorem cell_same {w w' : World} {b : Nat} (e : w'.heap[b]? = w.heap[b]?) (j : Nat) : w'.cell? ⟨b, j, none⟩ = w.cell? ⟨b, j, none⟩ := World.cell?_of_block (w := w) e
theorem frozen_same {w w' : World} {b : Nat} (e : w'.heap[b]? = w.heap[b]?) (j : Nat) : w'.frozen? ⟨b, j, none⟩ = w.frozen? ⟨b, j, none⟩ := World.frozen?_of_block (w := w) e
theorem IP.only {w w' : World} {b b' n : Nat} {F : Nat → Int} (h : IP w b n F) (k : Only b' w w') (hn : b ≠ b') : IP w' b n F :=
  ⟨by rw [k.size]; exact h.lt, fun i hi => (cell_same (k.block b hn) _).trans (h.c i hi), fun j => (frozen_same (k.block b hn) j).trans (h.fz j)⟩
theorem row_ip {w : World} {b n : Nat} {F : Nat → Int} (h : w.rowIs b 3 n (iRow F)) : IP w b n F := ⟨h.lt, fun _ hi => h.cell hi, fun j => h.frozen j⟩
def put (f : Nat → Int) (k : Nat) (v : Int) (i : Nat) : Int := if i = k then v else f i
theorem IP.set {w : World} {b n : Nat} {F : Nat → Int} (h : IP w b n F) {k : Nat} (hk : k < n) (u : Int) : IP (w.setCell ⟨b, k, none⟩ (.int .i64 u)) b n (put F k u) := by
  refine ⟨by simpa using h.lt, fun i hi => ?_, fun j => by simpa using h.fz j⟩
  unfold put
  by_cases e : i = k
  · subst e; rw [if_pos rfl]; exact World.cell?_setCell_same _ _ _ (h.c i hi)
  · rw [if_neg e]; exact (World.cell?_setCell_other _ _ _ _ (by simp <;> omega)).trans (h.c i hi)

/-- the first k ints as cells -/
def vL (F : Nat → Int) (k : Nat) : List Value := (List.range k).map fun i => .int .i64 (F i)
theorem vL_len (F : Nat → Int) (k : Nat) : (vL F k).length = k := by simp [vL]
theorem vL_get {F : Nat → Int} {k i : Nat} (h : i < k) : (vL F k)[i]? = some (.int .i64 (F i)) := by simp [vL, h]
theorem vL_succ (F : Nat → Int) (k : Nat) : vL F (k + 1) = vL F k ++ [.int .i64 (F k)] := by simp [vL, List.range_succ]

/-- the slice v is the call's own, with F's first k ints -/
def Own (w : World) (base : Nat) (v : Value) (k : Nat) (F : Nat → Int) : Prop := w.ownsRow base 3 1 v k (vL F k)
theorem Own.some {w : World} {base : Nat} {v : Value} {k : Nat} {F : Nat → Int} (h : Own w base v k F) (hk : 0 < k) : ∃ g cap, v = .slice (some ⟨g, 0, none⟩) k cap ∧ base ≤ g ∧ IP w g k F := by
  have h' := h
  obtain ⟨_, h0 | ⟨g, cap, cur, rfl, h2, h3, _⟩⟩ := h
  · omega
  · have hlt : g < w.heap.size := (Array.getElem?_eq_some_iff.1 h3).1
    refine ⟨g, cap, rfl, h2, hlt, fun i hi => ?_, fun j => World.ownsRow.frozenAt h' j⟩
    rw [World.ownsRow.cellAt h' i (by omega)]; exact vL_get hi
theorem Own.below {w w' : World} {base : Nat} {v : Value} {k : Nat} {F : Nat → Int} (h : Own w base v k F) (b : Below w.heap.size w w') : Own w' base v k F := by
  obtain ⟨hl, h⟩ := h
  refine ⟨hl, ?_⟩
  rcases h with h | ⟨g, cap, cur, h1, h2, h3, h4⟩
  · exact .inl h
  · have hg : g < w.heap.size := (Array.getElem?_eq_some_iff.1 h3).1
    exact .inr ⟨g, cap, cur, h1, h2, (b.block g hg).trans h3, h4⟩
theorem lit_ip (w : World) (xs : List Int) (t : TypeId) : IP (w.alloc (.cells (xs.map (Value.int .i64)).toArray t)) w.heap.size xs.length (fun i => xs.getD i 0) := by
  have hr := World.rowIs_alloc w (xs.map (Value.int .i64)).toArray t (fun i => .int .i64 (xs.getD i 0)) (by
    intro i hi
    have hi' : i < xs.length := by simpa using hi
    simp [hi', List.getD])
  have hs : (xs.map (Value.int .i64)).toArray.size = xs.length := by simp
  rw [hs] at hr
  exact ⟨hr.lt, fun _ hi => hr.cell hi, fun j => hr.frozen j⟩
theorem Own.only {w w' : World} {base b : Nat} {v : Value} {k : Nat} {F : Nat → Int} (h : Own w base v k F) (o : Only b w w') (hb : b < base) : Own w' base v k F := by
  obtain ⟨hl, h⟩ := h
  refine ⟨hl, ?_⟩
  rcases h with h | ⟨g, cap, cur, h1, h2, h3, h4⟩
  · exact .inl h
  · exact .inr ⟨g, cap, cur, h1, h2, (o.block g (by omega)).trans h3, h4⟩
theorem Own.shape {w : World} {base : Nat} {v : Value} {k : Nat} {F : Nat → Int} (h : Own w base v k F) : ∃ a cap, v = .slice a k cap := by
  obtain ⟨_, ⟨rfl, rfl⟩ | ⟨g, cap, cur, rfl, _⟩⟩ := h
  · exact ⟨_, _, rfl⟩
  · exact ⟨_, _, rfl⟩
theorem Own.il {w : World} {base : Nat} {a : Option Addr} {k c : Nat} {F : Nat → Int} (h : Own w base (.slice a k c) k F) : IL w a k F := fun h0 => by
  obtain ⟨g, cap, e, _, hP⟩ := h.some h0
  cases e
  exact hP.il h0
theorem vL_put (F : Nat → Int) (k : Nat) (x : Int) : vL (put F k x) (k + 1) = vL F k ++ [.int .i64 x] := by
  rw [vL_succ]
  congr 1
  · unfold vL
    refine List.map_congr_left fun i hi => ?_
    have : i ≠ k := by have := List.mem_range.1 hi; omega
    simp [put, this]
  · simp [put]
theorem own_put {w : World} {base : Nat} {v : Value} {k : Nat} {F : Nat → Int} {x : Int} (h : w.ownsRow base 3 1 v (k + 1) (vL F k ++ [.int .i64 x])) : Own w base v (k + 1) (put F k x) := by
  unfold Own; rw [vL_put]; exact h
theorem ret_bool {a b : Bool} (h : a = b) : Ending.returned (.bool a) = .returned (.bool b) := by rw [h]
theorem ret_int {a b : Int} (h : a = b) : Ending.returned (.int .i64 a) = .returned (.int .i64 b) := by rw [h]
end Go.Proofs.YtmlfijapndkfhaaDoor
