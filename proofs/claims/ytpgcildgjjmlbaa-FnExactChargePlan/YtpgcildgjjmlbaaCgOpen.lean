/- How a robot's numbers that came in are opened. -/
import Derived.Test.YtpgcildgjjmlbaaCgM
import Derived.ProofKit
import Derived.OpenShut
import Derived.ChangeOld
import Derived.ChangeSame
import Derived.Below
namespace Go.Proofs.Ytpgcildgjjmlbaa
open Go.ChangeShapes Go.WideShapes Go.ChangeAt Go.RowKit

section
variable {H : Type} {enc : TypeId × Value → H} {w : World} {base : Nat} {held : Bool}

theorem of_four9 {α : Type} {l : List α} (h : l.length = 4) : ∃ a b c d, l = [a, b, c, d] := by
  match l, h with
  | [a, b, c, d], _ => exact ⟨a, b, c, d, rfl⟩
theorem charge_cells {spare : Nat → Bool} {fuel : Nat} {cs : List Value} {x : DataW H × List MemPlace} (h : DataW.trod enc Try.prog w base spare held fuel 32 cs = some x) : ∃ l : Cg, cs = cgs l := by
  obtain ⟨xs, n, _, _, hl, hlen, hf⟩ := DataW.trod_struct Try.underlying32 h
  have e4 : Try.prog.cellsOf 32 = 4 := by kernel_rfl
  have e1 : Try.prog.cellsOf 3 = 1 := by kernel_rfl
  rw [e4] at hl
  obtain ⟨u0, u1, u2, u3, rfl⟩ := of_four9 hl
  obtain ⟨y0, y1, y2, y3, rfl⟩ := of_four9 hlen
  have h0 := hf 0 _ rfl
  have h1 := hf 1 _ rfl
  have h2 := hf 2 _ rfl
  have h3 := hf 3 _ rfl
  simp [e1] at h0 h1 h2 h3
  obtain ⟨a0, r0, _, _⟩ := DataW.trod_int Try.underlying3 h0
  obtain ⟨a1, r1, _, _⟩ := DataW.trod_int Try.underlying3 h1
  obtain ⟨a2, r2, _, _⟩ := DataW.trod_int Try.underlying3 h2
  obtain ⟨a3, r3, _, _⟩ := DataW.trod_int Try.underlying3 h3
  simp at r0 r1 r2 r3
  exact ⟨⟨a0, a1, a2, a3⟩, by rw [r0, r1, r2, r3]⟩
theorem open_charge {spare : Nat → Bool} {fuel : Nat} {v : Value} {x : DataW H × List MemPlace} {cs : Array Value} (hv : v = .agg cs) (h : DataW.trod enc Try.prog w base spare held fuel 32 v.cells.toList = some x) : ∃ l : Cg, v = cgv l := by
  subst hv
  obtain ⟨l, hc⟩ := charge_cells h
  refine ⟨l, ?_⟩
  simp only [Value.cells] at hc
  rw [← Array.toArray_toList (xs := cs), hc]
end
end Go.Proofs.Ytpgcildgjjmlbaa
