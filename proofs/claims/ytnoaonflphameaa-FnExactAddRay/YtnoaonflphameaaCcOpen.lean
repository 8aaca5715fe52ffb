/- How counts that came in are opened. -/
import Derived.Test.YtnoaonflphameaaCcBase
import Derived.Test.YtnoaonflphameaaInOpen
import Derived.ChangeSame
namespace Go.Proofs.Ytnoaonflphameaa
open Go.ChangeShapes Go.WideShapes Go.ChangeAt Go.RowKit Go.Deep

section
variable {H : Type} {enc : TypeId × Value → H} {w : World} {base : Nat} {held : Bool}

theorem three_of {α : Type} {l : List α} (h : l.length = 3) : ∃ x y z, l = [x, y, z] := by
  match l, h with
  | [x, y, z], _ => exact ⟨x, y, z, rfl⟩
theorem open_cnt {fuel : Nat} {v : Value} {x : DataW H × List MemPlace} {cs : Array Value} (hv : v = .agg cs) (h : DataW.trod enc Try.prog w base (fun _ => true) held fuel 46 v.cells.toList = some x) :
    ∃ W0 a n c b m d f g, v = cnt W0 a n c b m d ∧ n ≤ 9223372036854775807 ∧ m ≤ 9223372036854775807 ∧ IL w a n f ∧ IL w b m g := by
  subst hv
  obtain ⟨xs, n, _, _, hl, hlen, hf⟩ := DataW.trod_struct Try.underlying46 h
  have e2 : Try.prog.cellsOf 46 = 3 := by kernel_rfl
  have e1 : Try.prog.cellsOf 3 = 1 := by kernel_rfl
  have e3 : Try.prog.cellsOf 23 = 1 := by kernel_rfl
  rw [e2] at hl
  obtain ⟨u0, u1, u2, hcs⟩ := three_of hl
  rw [hcs] at hf
  obtain ⟨y0, y1, y2, rfl⟩ := three_of hlen
  have h0 := hf 0 _ rfl
  have h1 := hf 1 _ rfl
  have h2 := hf 2 _ rfl
  simp [e1, e3] at h0 h1 h2
  obtain ⟨W0, ha, _, _⟩ := DataW.trod_int Try.underlying3 h0
  obtain ⟨a, n, c, f, hb, hn, hF⟩ := open_il Try.underlying23 Try.underlying3 e1 h1
  obtain ⟨b, m, d, g, hc, hm, hG⟩ := open_il Try.underlying23 Try.underlying3 e1 h2
  simp at ha hb hc
  refine ⟨W0, a, n, c, b, m, d, f, g, ?_, hn, hm, hF, hG⟩
  simp only [Value.cells] at hcs
  rw [← Array.toArray_toList (xs := cs), hcs, ha, hb, hc]
end
end Go.Proofs.Ytnoaonflphameaa
