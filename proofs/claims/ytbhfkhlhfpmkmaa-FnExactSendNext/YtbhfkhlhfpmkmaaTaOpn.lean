/- How a sender that came in is opened. -/
import Derived.Test.YtbhfkhlhfpmkmaaTaSn
import Derived.Test.YtbhfkhlhfpmkmaaInOpen
import Derived.ChangeSame
namespace Go.Proofs.Ytbhfkhlhfpmkmaa
open Go.ChangeShapes Go.WideShapes Go.ChangeAt Go.RowKit Go.Deep
section
variable {H : Type} {enc : TypeId × Value → H} {w : World} {base : Nat} {held : Bool}
theorem sn_of {α : Type} {l : List α} (h : l.length = 3) : ∃ x y z, l = [x, y, z] := by
  match l, h with
  | [x, y, z], _ => exact ⟨x, y, z, rfl⟩
theorem open_sender {fuel : Nat} {v : Value} {x : DataW H × List MemPlace} {cs : Array Value} (hv : v = .agg cs) (h : DataW.trod enc Try.prog w base (fun _ => true) held fuel 40 v.cells.toList = some x) :
    ∃ a n c k t f, v = snv a n c k t ∧ n ≤ 9223372036854775807 ∧ IL w a n f := by
  subst hv
  obtain ⟨xs, n, _, _, hl, hlen, hf⟩ := DataW.trod_struct Try.underlying40 h
  have e2 : Try.prog.cellsOf 40 = 3 := by kernel_rfl
  have e1 : Try.prog.cellsOf 3 = 1 := by kernel_rfl
  have e3 : Try.prog.cellsOf 32 = 1 := by kernel_rfl
  rw [e2] at hl
  obtain ⟨u0, u1, u2, hcs⟩ := sn_of hl
  rw [hcs] at hf
  obtain ⟨y0, y1, y2, rfl⟩ := sn_of hlen
  have h0 := hf 0 _ rfl
  have h1 := hf 1 _ rfl
  have h2 := hf 2 _ rfl
  simp [e1, e3] at h0 h1 h2
  obtain ⟨a, n, c, f, hb, hn, hF⟩ := open_il Try.underlying32 Try.underlying3 e1 h0
  obtain ⟨k, hk, _, _⟩ := DataW.trod_int Try.underlying3 h1
  obtain ⟨t, ht, _, _⟩ := DataW.trod_int Try.underlying3 h2
  simp at hb hk ht
  refine ⟨a, n, c, k, t, f, ?_, hn, hF⟩
  simp only [Value.cells] at hcs
  rw [← Array.toArray_toList (xs := cs), hcs, hb, hk, ht]
end
end Go.Proofs.Ytbhfkhlhfpmkmaa
