/- What FnPlaces draws: a list of places. -/
import Derived.Test.YtfciecoigfnnhaaPlExt
import Derived.Test.YtfciecoigfnnhaaClAll
namespace Go.Proofs.Ytfciecoigfnnhaa
open Go.RowKit

theorem turns_below {lo hi B : Nat} {w w' w'' : World} (h : Turns lo hi w w') (k : Below B w' w'') (hB : w.heap.size ≤ B) : Turns lo hi w w'' :=
  ⟨k.os.trans h.os, k.tape.trans h.tape, k.output.trans h.output, Nat.le_trans h.size k.size, fun j hj hd => (k.block j (by omega)).trans (h.block j hj hd)⟩
/-- the answer: a list of the call's own -/
def AnsPl (w w' : World) (e : Ending) (C : Nat) (a : Option Addr) (len cap n k : Nat) : Prop := ∃ (a' : Option Addr) (c' : Nat) (l : List Int) (n' : Nat), e = .returned (.slice a' l.length c') ∧ l.length ≤ k ∧ LQ w' w.heap.size w'.heap.size a' l.length (gl l) ∧ n' ≤ n + 2 * k + 4 ∧ Cur w' C a len cap n' ∧ Turns C (C + 1) w w'
/-- a list that grows behind the cursor's steps -/
structure Grw (wr w2 : World) (o : Value) (C : Nat) (a : Option Addr) (len cap n k : Nat) (l : List Int) (n' : Nat) : Prop where
  own : Own wr w2.heap.size o l.length (gl l)
  le : l.length ≤ k
  small : n' ≤ n + 2 * k
  cur : Cur wr C a len cap n'
  turns : Turns C (C + 1) w2 wr
end Go.Proofs.Ytfciecoigfnnhaa
