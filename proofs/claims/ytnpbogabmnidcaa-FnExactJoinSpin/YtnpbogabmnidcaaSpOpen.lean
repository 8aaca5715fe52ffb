/- How a spin that came in is opened: its four numbers. -/
import Derived.Test.YtnpbogabmnidcaaSpBase
import Derived.ProofKit
import Derived.OpenShut
import Derived.ChangeOld
import Derived.ChangeSame
import Derived.Below
namespace Go.Proofs.Ytnpbogabmnidcaa
open Go.ChangeShapes Go.WideShapes Go.ChangeAt Go.RowKit

section
variable {H : Type} {enc : TypeId × Value → H} {w : World} {base : Nat} {held : Bool}

theorem four_of {α : Type} {l : List α} (h : l.length = 4) : ∃ x y z u, l = [x, y, z, u] := by
  match l, h with
  | [x, y, z, u], _ => exact ⟨x, y, z, u, rfl⟩

theorem open_cells {spare : Nat → Bool} {fuel : Nat} {cs : List Value} {x : DataW H × List MemPlace} (h : DataW.trod enc Try.prog w base spare held fuel 23 cs = some x) :
    ∃ a b c d, cs = [.int .i64 a, .int .i64 b, .int .i64 c, .int .i64 d] := by
  obtain ⟨xs, n, _, _, hl, hlen, hf⟩ := DataW.trod_struct Try.underlying23 h
  have e4 : Try.prog.cellsOf 23 = 4 := by kernel_rfl
  have e1 : Try.prog.cellsOf 3 = 1 := by kernel_rfl
  rw [e4] at hl
  obtain ⟨u0, u1, u2, u3, rfl⟩ := four_of hl
  obtain ⟨y0, y1, y2, y3, rfl⟩ := four_of hlen
  have h0 := hf 0 _ rfl
  have h1 := hf 1 _ rfl
  have h2 := hf 2 _ rfl
  have h3 := hf 3 _ rfl
  simp [e1] at h0 h1 h2 h3
  obtain ⟨a, ha, _, _⟩ := DataW.trod_int Try.underlying3 h0
  obtain ⟨b, hb, _, _⟩ := DataW.trod_int Try.underlying3 h1
  obtain ⟨c, hc, _, _⟩ := DataW.trod_int Try.underlying3 h2
  obtain ⟨d, hd, _, _⟩ := DataW.trod_int Try.underlying3 h3
  simp at ha hb hc hd
  exact ⟨a, b, c, d, by rw [ha, hb, hc, hd]⟩

theorem open_sp {spare : Nat → Bool} {fuel : Nat} {v : Value} {x : DataW H × List MemPlace} {cs : Array Value} (hv : v = .agg cs) (h : DataW.trod enc Try.prog w base spare held fuel 23 v.cells.toList = some x) :
    ∃ a b c d, v = sp a b c d := by
  subst hv
  obtain ⟨a, b, c, d, hc⟩ := open_cells h
  refine ⟨a, b, c, d, ?_⟩
  simp only [Value.cells] at hc
  rw [← Array.toArray_toList (xs := cs), hc]
end
end Go.Proofs.Ytnpbogabmnidcaa
