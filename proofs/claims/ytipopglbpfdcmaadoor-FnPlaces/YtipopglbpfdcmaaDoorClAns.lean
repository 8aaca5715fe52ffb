/- A list and whether it is one. -/
import Derived.Test.YtipopglbpfdcmaaDoorClUnder
namespace Go.Proofs.YtipopglbpfdcmaaDoor
open Go.RowKit
/-- the answer of a function that tells a list and whether it is one -/
def AnsB (w w' : World) (e : Ending) (l : List Int) (q : Bool) : Prop := ∃ a' c', e = .returned (.tuple #[.slice a' l.length c', .bool q]) ∧ LQ w' w.heap.size w'.heap.size a' l.length (gl l)
theorem ansB_nil (w w' : World) (q : Bool) : AnsB w w' (.returned (.tuple #[.slice none 0 0, .bool q])) [] q := ⟨none, 0, rfl, lq_none _ _ _ _ _⟩
theorem ansB_own {w w' : World} {base : Nat} {a : Option Addr} {c : Nat} {l : List Int} {q : Bool} (h : Own w' base (.slice a l.length c) l.length (gl l)) (hb : w.heap.size ≤ base) : AnsB w w' (.returned (.tuple #[.slice a l.length c, .bool q])) l q := ⟨a, c, rfl, h.lq.wide hb (Nat.le_refl _)⟩
/-- are cells good, a list places of theirs, and a way one -/
def seeQ (W : Int) (n : Nat) (f : Nat → Int) (m : Nat) (g : Nat → Int) (v : Int) : Bool := undB W n f m g && wayB v
end Go.Proofs.YtipopglbpfdcmaaDoor
