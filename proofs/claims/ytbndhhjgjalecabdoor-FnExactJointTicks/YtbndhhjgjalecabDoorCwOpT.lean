/- How a trip that came in is opened. -/
import Derived.Test.YtbndhhjgjalecabDoorCwTrip1
import Derived.ProofKit
import Derived.OpenShut
import Derived.ChangeOld
import Derived.ChangeSame
import Derived.Below
namespace Go.Proofs.YtbndhhjgjalecabDoor
open Go.ChangeShapes Go.WideShapes Go.ChangeAt Go.RowKit

section
variable {H : Type} {enc : TypeId × Value → H} {w : World} {base : Nat} {held : Bool}

theorem tp_two_of {α : Type} {l : List α} (h : l.length = 2) : ∃ x y, l = [x, y] := by
  match l, h with
  | [x, y], _ => exact ⟨x, y, rfl⟩
theorem tp_cells {spare : Nat → Bool} {fuel : Nat} {cs : List Value} {x : DataW H × List MemPlace} (h : DataW.trod enc Tryd.prog w base spare held fuel 26 cs = some x) :
    ∃ a b, cs = [.int .i64 a, .int .i64 b] := by
  obtain ⟨xs, n, _, _, hl, hlen, hf⟩ := DataW.trod_struct Tryd.underlying26 h
  have e2 : Tryd.prog.cellsOf 26 = 2 := by kernel_rfl
  have e1 : Tryd.prog.cellsOf 3 = 1 := by kernel_rfl
  rw [e2] at hl
  obtain ⟨u0, u1, rfl⟩ := tp_two_of hl
  obtain ⟨y0, y1, rfl⟩ := tp_two_of hlen
  have h0 := hf 0 _ rfl
  have h1 := hf 1 _ rfl
  simp [e1] at h0 h1
  obtain ⟨a, ha, _, wa⟩ := DataW.trod_int Tryd.underlying3 h0
  obtain ⟨b, hb, _, wb⟩ := DataW.trod_int Tryd.underlying3 h1
  simp at ha hb
  exact ⟨a, b, by rw [ha, hb]⟩
theorem open_trip {spare : Nat → Bool} {fuel : Nat} {v : Value} {x : DataW H × List MemPlace} {cs : Array Value} (hv : v = .agg cs) (h : DataW.trod enc Tryd.prog w base spare held fuel 26 v.cells.toList = some x) :
    ∃ a b, v = tpv a b := by
  subst hv
  obtain ⟨a, b, e⟩ := tp_cells h
  refine ⟨a, b, ?_⟩
  simp only [Value.cells] at e
  have : cs = #[.int .i64 a, .int .i64 b] := by cases cs; simp_all
  rw [this]
end
end Go.Proofs.YtbndhhjgjalecabDoor
