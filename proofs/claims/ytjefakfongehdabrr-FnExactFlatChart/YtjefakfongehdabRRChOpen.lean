/- How a chart that came in is opened. -/
import Derived.Test.YtjefakfongehdabRRChOpS
import Derived.Test.YtjefakfongehdabRRChOpA
import Derived.Test.YtjefakfongehdabRRChBase
namespace Go.Proofs.YtjefakfongehdabRR
open Go.ChangeShapes Go.WideShapes Go.ChangeAt Go.RowKit Go.Deep

section
variable {H : Type} {enc : TypeId × Value → H} {w : World} {base : Nat} {held : Bool}
theorem open_chart {fuel : Nat} {v : Value} {x : DataW H × List MemPlace} {cs : Array Value} (hv : v = .agg cs) (h : DataW.trod enc Try.prog w base (fun _ => true) held fuel 25 v.cells.toList = some x) :
    ∃ a n c b m d f g, v = chv a n c b m d ∧ n ≤ 9223372036854775807 ∧ m ≤ 9223372036854775807 ∧ IL w a (n * 2) f ∧ IL w b (m * 3) g := by
  subst hv
  obtain ⟨xs, n, _, _, hl, hlen, hf⟩ := DataW.trod_struct Try.underlying25 h
  have e2 : Try.prog.cellsOf 25 = 2 := by kernel_rfl
  have e3 : Try.prog.cellsOf 22 = 1 := by kernel_rfl
  have e4 : Try.prog.cellsOf 23 = 1 := by kernel_rfl
  rw [e2] at hl
  obtain ⟨u0, u1, hcs⟩ := st_of hl
  rw [hcs] at hf
  obtain ⟨y0, y1, rfl⟩ := st_of hlen
  have h0 := hf 0 _ rfl
  have h1 := hf 1 _ rfl
  simp [e3, e4] at h0 h1
  obtain ⟨a, n, c, f, hb, hn, hF⟩ := open_states h0
  obtain ⟨b, m, d, g, hc, hm, hG⟩ := open_arrows h1
  simp at hb hc
  refine ⟨a, n, c, b, m, d, f, g, ?_, hn, hm, hF, hG⟩
  simp only [Value.cells] at hcs
  rw [← Array.toArray_toList (xs := cs), hcs, hb, hc]
end
end Go.Proofs.YtjefakfongehdabRR
