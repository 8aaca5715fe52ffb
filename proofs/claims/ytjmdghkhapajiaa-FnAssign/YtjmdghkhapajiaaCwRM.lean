/- Lists of lists of ints in memory. -/
import Derived.Test.YtjmdghkhapajiaaLqBase
namespace Go.Proofs.Ytjmdghkhapajiaa
open Go.RowKit

/-- the rows of a list of lists by their index: the slices, and what lies in them -/
structure LL (w : World) (a : Option Addr) (n : Nat) (A : Nat → Option Addr) (K C : Nat → Nat) (F : Nat → Nat → Int) : Prop where
  out : 0 < n → ∃ b off, a = some ⟨b, off, none⟩ ∧ b < w.heap.size ∧ ∀ i, i < n → w.cell? ⟨b, off + i, none⟩ = some (.slice (A i) (K i) (C i))
  row : ∀ i, i < n → IL w (A i) (K i) (F i)
theorem LL.below {w w' : World} {a : Option Addr} {n : Nat} {A : Nat → Option Addr} {K C : Nat → Nat} {F : Nat → Nat → Int} (h : LL w a n A K C F) (hb : Below w.heap.size w w') : LL w' a n A K C F :=
  ⟨fun h0 => by
    obtain ⟨b, off, rfl, hbw, hc⟩ := h.out h0
    exact ⟨b, off, rfl, Nat.lt_of_lt_of_le hbw hb.size, fun i hi => (hb.cell (p := ⟨b, off + i, none⟩) hbw).trans (hc i hi)⟩, fun i hi => (h.row i hi).below hb⟩
theorem LL.on {w w' : World} {a : Option Addr} {n : Nat} {A : Nat → Option Addr} {K C : Nat → Nat} {F : Nat → Nat → Int} (h : LL w a n A K C F) (hb : Below w.heap.size w w') : LL w' a n A K C F := h.below hb
/-- some rows with these lengths and these numbers -/
def RR (w : World) (a : Option Addr) (n : Nat) (K : Nat → Nat) (F : Nat → Nat → Int) : Prop := ∃ A C, LL w a n A K C F
theorem RR.below {w w' : World} {a : Option Addr} {n : Nat} {K : Nat → Nat} {F : Nat → Nat → Int} (h : RR w a n K F) (hb : Below w.heap.size w w') : RR w' a n K F := let ⟨A, C, x⟩ := h; ⟨A, C, x.below hb⟩
theorem RR.on {w w' : World} {a : Option Addr} {n : Nat} {K : Nat → Nat} {F : Nat → Nat → Int} (h : RR w a n K F) (hb : Below w.heap.size w w') : RR w' a n K F := h.below hb

/-- .. each with room for what it has -/
def RC (w : World) (a : Option Addr) (n : Nat) (K : Nat → Nat) (F : Nat → Nat → Int) : Prop := ∃ A C, LL w a n A K C F ∧ ∀ i, i < n → K i ≤ C i
theorem RC.rr {w : World} {a : Option Addr} {n : Nat} {K : Nat → Nat} {F : Nat → Nat → Int} (h : RC w a n K F) : RR w a n K F := let ⟨A, C, x, _⟩ := h; ⟨A, C, x⟩
theorem RC.below {w w' : World} {a : Option Addr} {n : Nat} {K : Nat → Nat} {F : Nat → Nat → Int} (h : RC w a n K F) (hb : Below w.heap.size w w') : RC w' a n K F := let ⟨A, C, x, y⟩ := h; ⟨A, C, x.below hb, y⟩
theorem rowIs_none {w : World} {b n : Nat} {t : TypeId} {f : Nat → Value} (h : w.rowIs b t n f) {j : Nat} (hj : n ≤ j) : w.cell? ⟨b, j, none⟩ = none := by
  obtain ⟨c, h1, h2, _⟩ := h
  simp [World.cell?, h1, h2, hj]
theorem infoII : (Try.prog.info? 24).map (fun i => (i.zero, i.size, i.bytes)) = some (some (.slice none 0 0), 1, 24) := by kernel_rfl
/-- a row of slices that was begun: the first k are set -/
def rwS (A : Nat → Option Addr) (K C : Nat → Nat) (k : Nat) (i : Nat) : Value := if i < k then .slice (A i) (K i) (C i) else .slice none 0 0
theorem rwS_step (A : Nat → Option Addr) (K C : Nat → Nat) (k : Nat) {w : World} {b n : Nat} (x : Option Addr) (l c : Nat) (h : w.rowIs b 24 n (rwS A K C k)) :
    (w.setCell ⟨b, k, none⟩ (.slice x l c)).rowIs b 24 n (rwS (fun i => if i = k then x else A i) (fun i => if i = k then l else K i) (fun i => if i = k then c else C i) (k + 1)) := by
  refine (h.set k _).congr fun i _ => ?_
  unfold rwS
  by_cases e : i = k
  · subst e; simp
  · by_cases e2 : i < k
    · simp [e, e2, Nat.lt_succ_of_lt e2]
    · have : ¬ i < k + 1 := by omega
      simp [e, e2, this]
end Go.Proofs.Ytjmdghkhapajiaa
