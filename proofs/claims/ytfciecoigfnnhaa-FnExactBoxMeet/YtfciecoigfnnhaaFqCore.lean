/- Lists of floats in memory: what a block holds, and what stands behind a call. -/
import Derived.Test.YtfciecoigfnnhaaLqBase
import Derived.Test.YtfciecoigfnnhaaFlOps
namespace Go.Proofs.Ytfciecoigfnnhaa
open Go.RowKit

def FL (w : World) (a : Option Addr) (len : Nat) (f : Nat → Nat) : Prop :=
  0 < len → ∃ b off, a = some ⟨b, off, none⟩ ∧ b < w.heap.size ∧ ∀ i, i < len → w.cell? ⟨b, off + i, none⟩ = some (.float .f64 (f i))
theorem FL.below {w w' : World} {a : Option Addr} {len : Nat} {f : Nat → Nat} (h : FL w a len f) (hb : Below w.heap.size w w') : FL w' a len f := fun hl => by
  obtain ⟨b, off, rfl, hbw, hc⟩ := h hl
  exact ⟨b, off, rfl, Nat.lt_of_lt_of_le hbw hb.size, fun i hi => (hb.cell (p := ⟨b, off + i, none⟩) hbw).trans (hc i hi)⟩
theorem FL.congr {w : World} {a : Option Addr} {len : Nat} {f g : Nat → Nat} (h : FL w a len f) (e : ∀ i, i < len → f i = g i) : FL w a len g := fun hl => by
  obtain ⟨b, off, ha, hbw, hc⟩ := h hl
  exact ⟨b, off, ha, hbw, fun i hi => by rw [← e i hi]; exact hc i hi⟩
theorem FL.none (w : World) (f : Nat → Nat) : FL w none 0 f := fun h => absurd h (Nat.lt_irrefl _)

def fRow (f : Nat → Nat) (i : Nat) : Value := .float .f64 (f i)
theorem row_fl {w : World} {b len : Nat} {f : Nat → Nat} (h : w.rowIs b 106 len (fRow f)) : FL w (some ⟨b, 0, none⟩) len f :=
  fun _ => ⟨b, 0, rfl, h.lt, fun i hi => by rw [Nat.zero_add]; exact h.cell hi⟩

structure FP (w : World) (b n : Nat) (F : Nat → Nat) : Prop where
  lt : b < w.heap.size
  c : ∀ i, i < n → w.cell? ⟨b, i, none⟩ = some (.float .f64 (F i))
  fz : ∀ j, w.frozen? ⟨b, j, none⟩ = false
theorem FP.below {w w' : World} {B b n : Nat} {F : Nat → Nat} (h : FP w b n F) (k : Below B w w') (hB : b < B) : FP w' b n F :=
  ⟨Nat.lt_of_lt_of_le h.lt k.size, fun i hi => (k.cell (p := ⟨b, _, none⟩) hB).trans (h.c i hi), fun j => (k.frozen (p := ⟨b, j, none⟩) hB).trans (h.fz j)⟩
theorem FP.congr {w : World} {b n : Nat} {F G : Nat → Nat} (h : FP w b n F) (e : ∀ i, i < n → F i = G i) : FP w b n G :=
  ⟨h.lt, fun i hi => by rw [← e i hi]; exact h.c i hi, h.fz⟩
theorem FP.fl {w : World} {b n : Nat} {F : Nat → Nat} (h : FP w b n F) : FL w (some ⟨b, 0, none⟩) n F :=
  fun _ => ⟨b, 0, rfl, h.lt, fun i hi => by rw [Nat.zero_add]; exact h.c i hi⟩
theorem FP.only {w w' : World} {b b' n : Nat} {F : Nat → Nat} (h : FP w b n F) (k : Only b' w w') (hn : b ≠ b') : FP w' b n F :=
  ⟨by rw [k.size]; exact h.lt, fun i hi => (cell_same (k.block b hn) _).trans (h.c i hi), fun j => (frozen_same (k.block b hn) j).trans (h.fz j)⟩
theorem row_fp {w : World} {b n : Nat} {F : Nat → Nat} (h : w.rowIs b 106 n (fRow F)) : FP w b n F := ⟨h.lt, fun _ hi => h.cell hi, fun j => h.frozen j⟩
def putF (f : Nat → Nat) (k : Nat) (v : Nat) (i : Nat) : Nat := if i = k then v else f i
theorem FP.set {w : World} {b n : Nat} {F : Nat → Nat} (h : FP w b n F) {k : Nat} (hk : k < n) (u : Nat) : FP (w.setCell ⟨b, k, none⟩ (.float .f64 u)) b n (putF F k u) := by
  refine ⟨by simpa using h.lt, fun i hi => ?_, fun j => by simpa using h.fz j⟩
  unfold putF
  by_cases e : i = k
  · subst e; rw [if_pos rfl]; exact World.cell?_setCell_same _ _ _ (h.c i hi)
  · rw [if_neg e]; exact (World.cell?_setCell_other _ _ _ _ (by simp <;> omega)).trans (h.c i hi)

def fvL (F : Nat → Nat) (k : Nat) : List Value := (List.range k).map fun i => .float .f64 (F i)
theorem fvL_len (F : Nat → Nat) (k : Nat) : (fvL F k).length = k := by simp [fvL]
theorem fvL_get {F : Nat → Nat} {k i : Nat} (h : i < k) : (fvL F k)[i]? = some (.float .f64 (F i)) := by simp [fvL, h]
theorem fvL_succ (F : Nat → Nat) (k : Nat) : fvL F (k + 1) = fvL F k ++ [.float .f64 (F k)] := by simp [fvL, List.range_succ]

def OwnF (w : World) (base : Nat) (v : Value) (k : Nat) (F : Nat → Nat) : Prop := w.ownsRow base 106 1 v k (fvL F k)
theorem OwnF.some {w : World} {base : Nat} {v : Value} {k : Nat} {F : Nat → Nat} (h : OwnF w base v k F) (hk : 0 < k) : ∃ g cap, v = .slice (some ⟨g, 0, none⟩) k cap ∧ base ≤ g ∧ FP w g k F := by
  have h' := h
  obtain ⟨_, h0 | ⟨g, cap, cur, rfl, h2, h3, _⟩⟩ := h
  · omega
  · have hlt : g < w.heap.size := (Array.getElem?_eq_some_iff.1 h3).1
    refine ⟨g, cap, rfl, h2, hlt, fun i hi => ?_, fun j => World.ownsRow.frozenAt h' j⟩
    rw [World.ownsRow.cellAt h' i (by omega)]; exact fvL_get hi
theorem OwnF.below {w w' : World} {base : Nat} {v : Value} {k : Nat} {F : Nat → Nat} (h : OwnF w base v k F) (b : Below w.heap.size w w') : OwnF w' base v k F := by
  obtain ⟨hl, h⟩ := h
  refine ⟨hl, ?_⟩
  rcases h with h | ⟨g, cap, cur, h1, h2, h3, h4⟩
  · exact .inl h
  · have hg : g < w.heap.size := (Array.getElem?_eq_some_iff.1 h3).1
    exact .inr ⟨g, cap, cur, h1, h2, (b.block g hg).trans h3, h4⟩
theorem OwnF.only {w w' : World} {base b : Nat} {v : Value} {k : Nat} {F : Nat → Nat} (h : OwnF w base v k F) (o : Only b w w') (hb : b < base) : OwnF w' base v k F := by
  obtain ⟨hl, h⟩ := h
  refine ⟨hl, ?_⟩
  rcases h with h | ⟨g, cap, cur, h1, h2, h3, h4⟩
  · exact .inl h
  · exact .inr ⟨g, cap, cur, h1, h2, (o.block g (by omega)).trans h3, h4⟩
theorem OwnF.shape {w : World} {base : Nat} {v : Value} {k : Nat} {F : Nat → Nat} (h : OwnF w base v k F) : ∃ a cap, v = .slice a k cap := by
  obtain ⟨_, ⟨rfl, rfl⟩ | ⟨g, cap, cur, rfl, _⟩⟩ := h
  · exact ⟨_, _, rfl⟩
  · exact ⟨_, _, rfl⟩
theorem OwnF.fl {w : World} {base : Nat} {a : Option Addr} {k c : Nat} {F : Nat → Nat} (h : OwnF w base (.slice a k c) k F) : FL w a k F := fun h0 => by
  obtain ⟨g, cap, e, _, hP⟩ := h.some h0
  cases e
  exact hP.fl h0
theorem fvL_put (F : Nat → Nat) (k : Nat) (x : Nat) : fvL (putF F k x) (k + 1) = fvL F k ++ [.float .f64 x] := by
  rw [fvL_succ]
  congr 1
  · unfold fvL
    refine List.map_congr_left fun i hi => ?_
    have : i ≠ k := by have := List.mem_range.1 hi; omega
    simp [putF, this]
  · simp [putF]
theorem own_putF {w : World} {base : Nat} {v : Value} {k : Nat} {F : Nat → Nat} {x : Nat} (h : w.ownsRow base 106 1 v (k + 1) (fvL F k ++ [.float .f64 x])) : OwnF w base v (k + 1) (putF F k x) := by
  unfold OwnF; rw [fvL_put]; exact h
def FQ (w : World) (lo hi : Nat) (a : Option Addr) (n : Nat) (F : Nat → Nat) : Prop :=
  0 < n → ∃ b, a = some ⟨b, 0, none⟩ ∧ lo ≤ b ∧ b < hi ∧ FP w b n F
theorem FQ.fl {w : World} {lo hi : Nat} {a : Option Addr} {n : Nat} {F : Nat → Nat} (h : FQ w lo hi a n F) : FL w a n F := fun h0 => by
  obtain ⟨b, rfl, _, _, hP⟩ := h h0
  exact hP.fl h0
theorem FQ.on {w w' : World} {lo hi : Nat} {a : Option Addr} {n : Nat} {F : Nat → Nat} (h : FQ w lo hi a n F) (k : Below w.heap.size w w') : FQ w' lo hi a n F := fun h0 => by
  obtain ⟨b, rfl, h1, h2, hP⟩ := h h0
  exact ⟨b, rfl, h1, h2, hP.below k hP.lt⟩
theorem FQ.below {w w' : World} {B lo hi : Nat} {a : Option Addr} {n : Nat} {F : Nat → Nat} (h : FQ w lo hi a n F) (k : Below B w w') (hB : hi ≤ B) : FQ w' lo hi a n F := fun h0 => by
  obtain ⟨b, rfl, h1, h2, hP⟩ := h h0
  exact ⟨b, rfl, h1, h2, hP.below k (by omega)⟩
theorem FQ.only {w w' : World} {lo hi lo' hi' : Nat} {a : Option Addr} {n : Nat} {F : Nat → Nat} (h : FQ w lo hi a n F) (k : OnlyIn lo' hi' w w') (hd : hi ≤ lo' ∨ hi' ≤ lo) : FQ w' lo hi a n F := fun h0 => by
  obtain ⟨b, rfl, h1, h2, hP⟩ := h h0
  have e := k.block b (by omega)
  exact ⟨b, rfl, h1, h2, by rw [k.size]; exact hP.lt, fun i hi => (cell_same e _).trans (hP.c i hi), fun j => (frozen_same e j).trans (hP.fz j)⟩
theorem FQ.congr {w : World} {lo hi : Nat} {a : Option Addr} {n : Nat} {F G : Nat → Nat} (h : FQ w lo hi a n F) (e : ∀ i, i < n → F i = G i) : FQ w lo hi a n G := fun h0 => by
  obtain ⟨b, rfl, h1, h2, hP⟩ := h h0
  exact ⟨b, rfl, h1, h2, hP.congr e⟩
theorem FQ.wide {w : World} {lo hi lo' hi' : Nat} {a : Option Addr} {n : Nat} {F : Nat → Nat} (h : FQ w lo hi a n F) (h0 : lo' ≤ lo) (h1 : hi ≤ hi') : FQ w lo' hi' a n F := fun hn => by
  obtain ⟨b, rfl, h2, h3, hP⟩ := h hn
  exact ⟨b, rfl, by omega, by omega, hP⟩
theorem fq_none (w : World) (lo hi : Nat) (a : Option Addr) (F : Nat → Nat) : FQ w lo hi a 0 F := fun h => absurd h (Nat.lt_irrefl _)
theorem fq_of {w : World} {b lo hi n : Nat} {F : Nat → Nat} (h : FP w b n F) (h0 : lo ≤ b) (h1 : b < hi) : FQ w lo hi (some ⟨b, 0, none⟩) n F := fun _ => ⟨b, rfl, h0, h1, h⟩
theorem OwnF.fq {w : World} {base : Nat} {a : Option Addr} {k c : Nat} {F : Nat → Nat} (h : OwnF w base (.slice a k c) k F) : FQ w base w.heap.size a k F := fun h0 => by
  obtain ⟨g, cap, e, hg, hP⟩ := h.some h0
  cases e
  exact ⟨g, rfl, hg, hP.lt, hP⟩

theorem FQ.turns {w w' : World} {lo hi lo' hi' : Nat} {a : Option Addr} {n : Nat} {F : Nat → Nat} (h : FQ w lo hi a n F) (k : Turns lo' hi' w w') (hd : hi ≤ lo' ∨ hi' ≤ lo) : FQ w' lo hi a n F := fun h0 => by
  obtain ⟨b, rfl, h1, h2, hP⟩ := h h0
  have e := k.block b hP.lt (by omega)
  exact ⟨b, rfl, h1, h2, Nat.lt_of_lt_of_le hP.lt k.size, fun i hi => (cell_same e _).trans (hP.c i hi), fun j => (frozen_same e j).trans (hP.fz j)⟩

theorem fq_set {w : World} {lo hi : Nat} {a : Option Addr} {n : Nat} {F : Nat → Nat} (h : FQ w lo hi a n F) {b k : Nat} (v : Value) (hn : b < lo ∨ hi ≤ b) : FQ (w.setCell ⟨b, k, none⟩ v) lo hi a n F :=
  h.only (lo' := b) (hi' := b + 1) (OnlyIn.of ((Only.refl b w).set k v) (Nat.le_refl _) (Nat.lt_succ_self _)) (by omega)
theorem FL.alloc {w : World} {a : Option Addr} {len : Nat} {f : Nat → Nat} (h : FL w a len f) (o : Obj) : FL (w.alloc o) a len f := h.below ((Below.refl w.heap.size w).alloc (Nat.le_refl _) o)
end Go.Proofs.Ytfciecoigfnnhaa
