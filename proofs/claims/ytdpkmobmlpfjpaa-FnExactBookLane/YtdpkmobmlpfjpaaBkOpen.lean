/- How a booking that came in is opened. -/
import Derived.Test.YtdpkmobmlpfjpaaFkOpB
import Derived.Test.YtdpkmobmlpfjpaaFkBk
namespace Go.Proofs.Ytdpkmobmlpfjpaa
open Go.ChangeShapes Go.WideShapes Go.ChangeAt Go.RowKit
section
variable {H : Type} {enc : TypeId × Value → H} {w : World} {base : Nat} {held : Bool}
theorem open_booked {spare : Nat → Bool} {fuel : Nat} {v : Value} {x : DataW H × List MemPlace} {cs : Array Value} (hv : v = .agg cs) (h : DataW.trod enc Try.prog w base spare held fuel 43 v.cells.toList = some x) : ∃ a b c d : Int, v = bkv a b c d := by
  subst hv
  obtain ⟨a, b, c, d, hc⟩ := bkp_cells h
  refine ⟨a, b, c, d, ?_⟩
  simp only [Value.cells] at hc
  rw [← Array.toArray_toList (xs := cs), hc]
end
end Go.Proofs.Ytdpkmobmlpfjpaa
