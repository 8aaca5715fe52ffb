/- How a point that came in is opened: its two floats. -/
import Derived.Test.YtgcnkecfdmafdaaFlOpen
import Derived.Test.YtgcnkecfdmafdaaFlBase
import Derived.ChangeSame
namespace Go.Proofs.Ytgcnkecfdmafdaa
open Go.ChangeShapes Go.WideShapes Go.ChangeAt Go.RowKit Go.Deep

section
variable {H : Type} {enc : TypeId × Value → H} {w : World} {base : Nat} {held : Bool}

theorem open_point {spare : Nat → Bool} {fuel : Nat} {cs : List Value} {x : DataW H × List MemPlace} (h : DataW.trod enc Try.prog w base spare held fuel 24 cs = some x) :
    ∃ a b, cs = [.float .f64 a, .float .f64 b] ∧ a < 18446744073709551616 ∧ b < 18446744073709551616 := by
  obtain ⟨y0, y1, n, rfl, hl, h0, h1⟩ := trod_struct2 Try.underlying24 h
  have e2 : Try.prog.cellsOf 24 = 2 := by kernel_rfl
  have e1 : Try.prog.cellsOf 22 = 1 := by kernel_rfl
  rw [e2] at hl
  match cs, hl with
  | [u, v], _ =>
    simp only [e1] at h0 h1
    obtain ⟨a, ha, _, wa⟩ := trod_float Try.underlying22 h0
    obtain ⟨b, hb, _, wb⟩ := trod_float Try.underlying22 h1
    simp at ha hb
    exact ⟨a, b, by rw [ha, hb], by simpa [Lit.wf] using wa, by simpa [Lit.wf] using wb⟩

theorem open_pt {spare : Nat → Bool} {fuel : Nat} {v : Value} {x : DataW H × List MemPlace} {cs : Array Value} (hv : v = .agg cs) (h : DataW.trod enc Try.prog w base spare held fuel 24 v.cells.toList = some x) :
    ∃ a b, v = .agg #[.float .f64 a, .float .f64 b] ∧ a < 18446744073709551616 ∧ b < 18446744073709551616 := by
  subst hv
  obtain ⟨a, b, hc, ha, hb⟩ := open_point h
  refine ⟨a, b, ?_, ha, hb⟩
  simp only [Value.cells] at hc
  rw [← Array.toArray_toList (xs := cs), hc]
end
end Go.Proofs.Ytgcnkecfdmafdaa
