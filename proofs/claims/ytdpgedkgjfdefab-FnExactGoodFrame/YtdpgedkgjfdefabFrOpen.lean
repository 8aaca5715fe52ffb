/- How a frame that came in is opened. -/
import Derived.Test.YtdpgedkgjfdefabFrBase
import Derived.Test.YtdpgedkgjfdefabYlOpen
import Derived.ChangeSame
namespace Go.Proofs.Ytdpgedkgjfdefab
open Go.ChangeShapes Go.WideShapes Go.ChangeAt Go.RowKit Go.Deep

section
variable {H : Type} {enc : TypeId × Value → H} {w : World} {base : Nat} {held : Bool}

theorem two_of {α : Type} {l : List α} (h : l.length = 2) : ∃ x y, l = [x, y] := by
  match l, h with
  | [x, y], _ => exact ⟨x, y, rfl⟩
theorem open_frv {fuel : Nat} {v : Value} {x : DataW H × List MemPlace} {cs : Array Value} (hv : v = .agg cs) (h : DataW.trod enc Try.prog w base (fun _ => true) held fuel 24 v.cells.toList = some x) :
    ∃ W0 a n c f, v = frv W0 a n c ∧ n ≤ 9223372036854775807 ∧ YL w a n f := by
  subst hv
  obtain ⟨xs, n, _, _, hl, hlen, hf⟩ := DataW.trod_struct Try.underlying24 h
  have e2 : Try.prog.cellsOf 24 = 2 := by kernel_rfl
  have e1 : Try.prog.cellsOf 3 = 1 := by kernel_rfl
  have e3 : Try.prog.cellsOf 22 = 1 := by kernel_rfl
  rw [e2] at hl
  obtain ⟨u0, u1, hcs⟩ := two_of hl
  rw [hcs] at hf
  obtain ⟨y0, y1, rfl⟩ := two_of hlen
  have h0 := hf 0 _ rfl
  have h1 := hf 1 _ rfl
  simp [e1, e3] at h0 h1
  obtain ⟨W0, ha, _, _⟩ := DataW.trod_int Try.underlying3 h0
  obtain ⟨a, n, c, f, hb, hn, hF⟩ := open_yl Try.underlying22 Try.underlying5 (by kernel_rfl) h1
  simp at ha hb
  refine ⟨W0, a, n, c, f, ?_, hn, hF⟩
  simp only [Value.cells] at hcs
  rw [← Array.toArray_toList (xs := cs), hcs, ha, hb]
end
end Go.Proofs.Ytdpgedkgjfdefab
