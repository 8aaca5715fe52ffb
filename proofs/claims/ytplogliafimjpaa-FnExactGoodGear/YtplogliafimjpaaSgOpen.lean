/- How a gear that came in is opened. -/
import Derived.Test.YtplogliafimjpaaSgM
import Derived.ProofKit
import Derived.OpenShut
import Derived.ChangeOld
import Derived.ChangeSame
import Derived.Below
namespace Go.Proofs.Ytplogliafimjpaa
open Go.ChangeShapes Go.WideShapes Go.ChangeAt Go.RowKit

section
variable {H : Type} {enc : TypeId × Value → H} {w : World} {base : Nat} {held : Bool}

theorem of_five {α : Type} {l : List α} (h : l.length = 5) : ∃ a b c d e, l = [a, b, c, d, e] := by
  match l, h with
  | [a, b, c, d, e], _ => exact ⟨a, b, c, d, e, rfl⟩
theorem gear_cells {spare : Nat → Bool} {fuel : Nat} {cs : List Value} {x : DataW H × List MemPlace} (h : DataW.trod enc Try.prog w base spare held fuel 23 cs = some x) : ∃ l : Gr, cs = grs l := by
  obtain ⟨xs, n, _, _, hl, hlen, hf⟩ := DataW.trod_struct Try.underlying23 h
  have e5 : Try.prog.cellsOf 23 = 5 := by kernel_rfl
  have e1 : Try.prog.cellsOf 3 = 1 := by kernel_rfl
  rw [e5] at hl
  obtain ⟨u0, u1, u2, u3, u4, rfl⟩ := of_five hl
  obtain ⟨y0, y1, y2, y3, y4, rfl⟩ := of_five hlen
  have h0 := hf 0 _ rfl
  have h1 := hf 1 _ rfl
  have h2 := hf 2 _ rfl
  have h3 := hf 3 _ rfl
  have h4 := hf 4 _ rfl
  simp [e1] at h0 h1 h2 h3 h4
  obtain ⟨a0, r0, _, _⟩ := DataW.trod_int Try.underlying3 h0
  obtain ⟨a1, r1, _, _⟩ := DataW.trod_int Try.underlying3 h1
  obtain ⟨a2, r2, _, _⟩ := DataW.trod_int Try.underlying3 h2
  obtain ⟨a3, r3, _, _⟩ := DataW.trod_int Try.underlying3 h3
  obtain ⟨a4, r4, _, _⟩ := DataW.trod_int Try.underlying3 h4
  simp at r0 r1 r2 r3 r4
  exact ⟨⟨a0, a1, a2, a3, a4⟩, by rw [r0, r1, r2, r3, r4]⟩
theorem open_gear {spare : Nat → Bool} {fuel : Nat} {v : Value} {x : DataW H × List MemPlace} {cs : Array Value} (hv : v = .agg cs) (h : DataW.trod enc Try.prog w base spare held fuel 23 v.cells.toList = some x) : ∃ l : Gr, v = grv l := by
  subst hv
  obtain ⟨l, hc⟩ := gear_cells h
  refine ⟨l, ?_⟩
  simp only [Value.cells] at hc
  rw [← Array.toArray_toList (xs := cs), hc]
end
end Go.Proofs.Ytplogliafimjpaa
