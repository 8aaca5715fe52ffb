/- The places that win; the model. -/
import Derived.Test.YtacnegfmdckpbaaDoorWhStM
import Derived.Test.YtacnegfmdckpbaaDoorWhRkM
import Derived.Test.YtacnegfmdckpbaaDoorLsOwn
import Derived.Test.YtacnegfmdckpbaaDoorWhCnI
import Derived.Maps.AppendAt
namespace Go.Proofs.YtacnegfmdckpbaaDoor
open Go.RowKit
/-- the places that win -/
def wnV (n : Nat) (f : Nat → ByteArray) (m : Nat) (g : Nat → Bool) (p : Nat) (K : Nat → Nat) (R : Nat → Nat → Int) (rn : Nat) (re : Nat → ByteArray) (an : Nat) (av : Nat → ByteArray) : Option (List Int) :=
  if bwB n f m p K R rn re an av = true then some (wnL (rkV n (knF f rn re an av) rn g K R) n) else none
/-- a list elsewhere stays as it is, whatever grows -/
theorem wn_grow {w w6 : World} {lb p : Nat} {N : Nat → Int} {v v' : Value} {o : Obj} (h : IP w lb p N) (hn : v.ownBlock ≠ some lb) (hg : (w.alloc o).grownBy w6 v.ownBlock) (ha : v'.ownBlock = v.ownBlock ∨ v'.ownBlock = some (w.alloc o).heap.size) : IP w6 lb p N ∧ v'.ownBlock ≠ some lb := by
  have hI : IP (w.alloc o) lb p N := h.below ((Below.refl w.heap.size w).alloc (Nat.le_refl _) o) h.lt
  have e := hg.block lb hI.lt (fun e => hn e.symm)
  refine ⟨⟨Nat.lt_of_lt_of_le hI.lt hg.size, fun i hi => (cell_same e _).trans (hI.c i hi), fun j => (frozen_same e j).trans (hI.fz j)⟩, ?_⟩
  rcases ha with e9 | e9
  · rw [e9]; exact hn
  · rw [e9]
    intro e8
    have := Option.some.inj e8
    have := hI.lt
    omega
end Go.Proofs.YtacnegfmdckpbaaDoor
