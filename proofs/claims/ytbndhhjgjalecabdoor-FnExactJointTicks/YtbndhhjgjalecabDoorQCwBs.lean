/- A search in memory: a table of ints that is written, and a list of ints that grows. -/
import Derived.Test.YtbndhhjgjalecabDoorQCwNb
import Derived.Test.YtbndhhjgjalecabDoorQCwBfs
import Derived.Test.YtbndhhjgjalecabDoorQCwGtM
namespace Go.Proofs.YtbndhhjgjalecabDoor
open Go.RowKit

theorem tn_below {lo hi : Nat} {w w' w'' : World} (h : Turns lo hi w w') (k : Below w.heap.size w' w'') : Turns lo hi w w'' :=
  ⟨k.os.trans h.os, k.tape.trans h.tape, k.output.trans h.output, Nat.le_trans h.size k.size, fun c h1 hc => (k.block c h1).trans (h.block c h1 hc)⟩
/-- behind w0: block FB holds a table, v is a list of the call's own -/
structure Bs (w0 wr : World) (FB N : Nat) (F : Nat → Int) (v : Value) (L : Nat) (T : Nat → Int) : Prop where
  ip : IP wr FB N F
  own : Own wr w0.heap.size v L T
  tn : Turns FB (FB + 1) w0 wr
  lt : FB < w0.heap.size
/-- the list's block is none of these -/
def Bn (lo hi : Nat) (v : Value) : Prop := ∀ q, v.ownBlock = some q → q < lo ∨ hi ≤ q
section
variable {w0 wr w' : World} {FB N : Nat} {F : Nat → Int} {v : Value} {L : Nat} {T : Nat → Int}
theorem Bs.size (h : Bs w0 wr FB N F v L T) : w0.heap.size ≤ wr.heap.size := h.tn.size
theorem Bs.on (h : Bs w0 wr FB N F v L T) (k : Below wr.heap.size wr w') : Bs w0 w' FB N F v L T :=
  ⟨h.ip.below k h.ip.lt, h.own.below k, tn_below h.tn (k.mono h.tn.size), h.lt⟩
theorem Bs.set (h : Bs w0 wr FB N F v L T) {u : Nat} (hu : u < N) (x : Int) : Bs w0 (wr.setCell ⟨FB, u, none⟩ (.int .i64 x)) FB N (put F u x) v L T :=
  ⟨h.ip.set hu x, h.own.only ((Only.refl FB wr).set u _) h.lt, h.tn.trans (OnlyIn.turns (OnlyIn.of ((Only.refl FB wr).set u _) (Nat.le_refl _) (Nat.lt_succ_self _))), h.lt⟩
theorem Bs.congr {F' : Nat → Int} (h : Bs w0 wr FB N F v L T) (e : ∀ i, i < N → F i = F' i) : Bs w0 wr FB N F' v L T := ⟨h.ip.congr e, h.own, h.tn, h.lt⟩
theorem Bs.app (h : Bs w0 wr FB N F v L T) {o : Obj} {w3 : World} {v' : Value} {x : Int} (ho : w3.ownsRow w0.heap.size 3 1 v' (L + 1) (vL T L ++ [.int .i64 x])) (hg : (wr.alloc o).grownBy w3 v.ownBlock) : Bs w0 w3 FB N F v' (L + 1) (put T L x) := by
  have hb : Below w0.heap.size wr w3 := ((Below.refl _ _).alloc h.size o).grown hg (by simp; have := h.size; omega) (fun q hq => (World.ownsRow.lt h.own q hq).1)
  exact ⟨h.ip.below hb h.lt, own_put ho, tn_below h.tn hb, h.lt⟩
theorem lq_app {lo hi n : Nat} {a : Option Addr} {G : Nat → Int} (h : LQ wr lo hi a n G) (hb : Bn lo hi v) {o : Obj} {w3 : World} (hg : (wr.alloc o).grownBy w3 v.ownBlock) : LQ w3 lo hi a n G := fun h0 => by
  obtain ⟨b, rfl, h1, h2, hP⟩ := h.on ((Below.refl wr.heap.size wr).alloc (Nat.le_refl _) o) h0
  have e := hg.block b hP.lt (fun e => by have := hb b e.symm; omega)
  exact ⟨b, rfl, h1, h2, Nat.lt_of_lt_of_le hP.lt hg.size, fun i hi => (cell_same e _).trans (hP.c i hi), fun j => (frozen_same e j).trans (hP.fz j)⟩
theorem Bn.app {lo hi : Nat} (hb : Bn lo hi v) {o : Obj} {v' : Value} (ht : v'.ownBlock = v.ownBlock ∨ v'.ownBlock = some (wr.alloc o).heap.size) (hh : hi ≤ wr.heap.size) : Bn lo hi v' := fun q hq => by
  rcases ht with e | e
  · exact hb q (by rw [← e]; exact hq)
  · rw [e] at hq
    have : q = wr.heap.size + 1 := by simpa using hq.symm
    omega
theorem Bs.bn (h : Bs w0 wr FB N F v L T) (lo hi : Nat) (hl : wr.heap.size ≤ lo) : Bn lo hi v := fun q hq => .inl (Nat.lt_of_lt_of_le (World.ownsRow.lt h.own q hq).2 hl)
theorem Bs.below (h : Bs w0 wr FB N F v L T) {B : Nat} (hB : B ≤ FB) : Below B w0 wr := h.tn.below hB (by have := h.lt; omega)
end
theorem own_lit1 (w : World) (base : Nat) (x : Int) (T : Nat → Int) (hT : T 0 = x) (h : base ≤ w.heap.size) : Own (w.alloc (.cells #[.int .i64 x] 3)) base (.slice (some ⟨w.heap.size, 0, none⟩) 1 1) 1 T :=
  ⟨by simp [vL], .inr ⟨w.heap.size, 1, #[.int .i64 x], rfl, h, heap_alloc_new w _, Nat.le_refl _, by unfold maxLen; omega, rfl, by simp [vL, hT]⟩⟩
/-- the trip of a pair of numbers, as a list of one -/
def tg (s t : Int) (i : Nat) : Int := if i = 0 then s else t
/-- what AloneTicks tells -/
def AlnIs (W : Int) (n : Nat) (f : Nat → Int) (s t d : Int) : Prop :=
  (gtB W n f 1 (tg s t) = false ∧ d = -1) ∨ (gtB W n f 1 (tg s t) = true ∧ DistIs (Stp W n f) s.toNat t.toNat d)
theorem AlnIs.uniq {W : Int} {n : Nat} {f : Nat → Int} {s t d d' : Int} (h : AlnIs W n f s t d) (h' : AlnIs W n f s t d') : d = d' := by
  rcases h with ⟨h1, h2⟩ | ⟨h1, h2⟩ <;> rcases h' with ⟨g1, g2⟩ | ⟨g1, g2⟩
  · rw [h2, g2]
  · rw [h1] at g1; cases g1
  · rw [h1] at g1; cases g1
  · exact h2.uniq g2
/-- the first j of a list -/
def SnL (l : List Int) (j u : Nat) : Prop := ∃ p, p < j ∧ gl l p = (u : Int)
end Go.Proofs.YtbndhhjgjalecabDoor
