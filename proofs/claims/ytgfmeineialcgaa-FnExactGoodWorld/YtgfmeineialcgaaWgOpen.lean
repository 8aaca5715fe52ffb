/- How a world that came in is opened. -/
import Derived.Test.YtgfmeineialcgaaWgM
import Derived.Test.YtgfmeineialcgaaInOpen
import Derived.ChangeSame
namespace Go.Proofs.Ytgfmeineialcgaa
open Go.ChangeShapes Go.WideShapes Go.ChangeAt Go.RowKit Go.Deep

section
variable {H : Type} {enc : TypeId × Value → H} {w : World} {base : Nat} {held : Bool}

theorem four_of {α : Type} {l : List α} (h : l.length = 4) : ∃ x y z u, l = [x, y, z, u] := by
  match l, h with
  | [x, y, z, u], _ => exact ⟨x, y, z, u, rfl⟩
theorem five_of {α : Type} {l : List α} (h : l.length = 5) : ∃ x y z u v, l = [x, y, z, u, v] := by
  match l, h with
  | [x, y, z, u, v], _ => exact ⟨x, y, z, u, v, rfl⟩
theorem two_of' {α : Type} {l : List α} (h : l.length = 2) : ∃ x y, l = [x, y] := by
  match l, h with
  | [x, y], _ => exact ⟨x, y, rfl⟩
theorem open_world {fuel : Nat} {v : Value} {x : DataW H × List MemPlace} {cs : Array Value} (hv : v = .agg cs) (h : DataW.trod enc Try.prog w base (fun _ => true) held fuel 26 v.cells.toList = some x) :
    ∃ W0 a n c t s d f, v = wvl W0 a n c t s d ∧ n ≤ 9223372036854775807 ∧ IL w a n f := by
  subst hv
  obtain ⟨xs, nn, _, _, hl, hlen, hf⟩ := DataW.trod_struct Try.underlying26 h
  have e2 : Try.prog.cellsOf 26 = 5 := by kernel_rfl
  have e4 : Try.prog.cellsOf 24 = 2 := by kernel_rfl
  have e1 : Try.prog.cellsOf 3 = 1 := by kernel_rfl
  have e3 : Try.prog.cellsOf 22 = 1 := by kernel_rfl
  rw [e2] at hl
  obtain ⟨u0, u1, u2, u3, u4, hcs⟩ := five_of hl
  rw [hcs] at hf
  obtain ⟨y0, y1, y2, y3, rfl⟩ := four_of hlen
  have h0 := hf 0 _ rfl
  have h1 := hf 1 _ rfl
  have h2 := hf 2 _ rfl
  have h3 := hf 3 _ rfl
  simp [e1, e4] at h0 h1 h2 h3
  obtain ⟨xs2, n2, _, _, _, hlen2, hg⟩ := DataW.trod_struct Try.underlying24 h0
  obtain ⟨z0, z1, rfl⟩ := two_of' hlen2
  have g0 := hg 0 _ rfl
  have g1 := hg 1 _ rfl
  simp [e1, e3] at g0 g1
  obtain ⟨W0, ha, _, _⟩ := DataW.trod_int Try.underlying3 g0
  obtain ⟨a, n, c, f, hb, hn, hF⟩ := open_il Try.underlying22 Try.underlying3 e1 g1
  obtain ⟨t0, ht, _, _⟩ := DataW.trod_int Try.underlying3 h1
  obtain ⟨s0, hs, _, _⟩ := DataW.trod_int Try.underlying3 h2
  obtain ⟨d0, hd, _, _⟩ := DataW.trod_int Try.underlying3 h3
  simp at ha hb ht hs hd
  refine ⟨W0, a, n, c, t0, s0, d0, f, ?_, hn, hF⟩
  simp only [Value.cells] at hcs
  rw [← Array.toArray_toList (xs := cs), hcs, ha, hb, ht, hs, hd]
end
end Go.Proofs.Ytgfmeineialcgaa
