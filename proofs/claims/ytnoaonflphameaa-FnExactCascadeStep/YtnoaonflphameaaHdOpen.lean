/- How a loop and a hold that came in are opened. -/
import Derived.Test.YtnoaonflphameaaHdMath
import Derived.ProofKit
import Derived.OpenShut
import Derived.ChangeOld
import Derived.ChangeSame
import Derived.Below
namespace Go.Proofs.Ytnoaonflphameaa
open Go.ChangeShapes Go.WideShapes Go.ChangeAt Go.RowKit

section
variable {H : Type} {enc : TypeId × Value → H} {w : World} {base : Nat} {held : Bool}

theorem of_seven {α : Type} {l : List α} (h : l.length = 7) : ∃ a b c d e f g, l = [a, b, c, d, e, f, g] := by
  match l, h with
  | [a, b, c, d, e, f, g], _ => exact ⟨a, b, c, d, e, f, g, rfl⟩
theorem of_four {α : Type} {l : List α} (h : l.length = 4) : ∃ a b c d, l = [a, b, c, d] := by
  match l, h with
  | [a, b, c, d], _ => exact ⟨a, b, c, d, rfl⟩
theorem loop_cells {spare : Nat → Bool} {fuel : Nat} {cs : List Value} {x : DataW H × List MemPlace} (h : DataW.trod enc Try.prog w base spare held fuel 51 cs = some x) : ∃ l : Lp, cs = lvs l := by
  obtain ⟨xs, n, _, _, hl, hlen, hf⟩ := DataW.trod_struct Try.underlying51 h
  have e7 : Try.prog.cellsOf 51 = 7 := by kernel_rfl
  have e1 : Try.prog.cellsOf 3 = 1 := by kernel_rfl
  rw [e7] at hl
  obtain ⟨u0, u1, u2, u3, u4, u5, u6, rfl⟩ := of_seven hl
  obtain ⟨y0, y1, y2, y3, y4, y5, y6, rfl⟩ := of_seven hlen
  have h0 := hf 0 _ rfl
  have h1 := hf 1 _ rfl
  have h2 := hf 2 _ rfl
  have h3 := hf 3 _ rfl
  have h4 := hf 4 _ rfl
  have h5 := hf 5 _ rfl
  have h6 := hf 6 _ rfl
  simp [e1] at h0 h1 h2 h3 h4 h5 h6
  obtain ⟨a0, r0, _, _⟩ := DataW.trod_int Try.underlying3 h0
  obtain ⟨a1, r1, _, _⟩ := DataW.trod_int Try.underlying3 h1
  obtain ⟨a2, r2, _, _⟩ := DataW.trod_int Try.underlying3 h2
  obtain ⟨a3, r3, _, _⟩ := DataW.trod_int Try.underlying3 h3
  obtain ⟨a4, r4, _, _⟩ := DataW.trod_int Try.underlying3 h4
  obtain ⟨a5, r5, _, _⟩ := DataW.trod_int Try.underlying3 h5
  obtain ⟨a6, r6, _, _⟩ := DataW.trod_int Try.underlying3 h6
  simp at r0 r1 r2 r3 r4 r5 r6
  exact ⟨⟨a0, a1, a2, a3, a4, a5, a6⟩, by rw [r0, r1, r2, r3, r4, r5, r6]⟩
theorem open_loop {spare : Nat → Bool} {fuel : Nat} {v : Value} {x : DataW H × List MemPlace} {cs : Array Value} (hv : v = .agg cs) (h : DataW.trod enc Try.prog w base spare held fuel 51 v.cells.toList = some x) : ∃ l : Lp, v = lv l := by
  subst hv
  obtain ⟨l, hc⟩ := loop_cells h
  refine ⟨l, ?_⟩
  simp only [Value.cells] at hc
  rw [← Array.toArray_toList (xs := cs), hc]
theorem open_hold {spare : Nat → Bool} {fuel : Nat} {v : Value} {x : DataW H × List MemPlace} {cs : Array Value} (hv : v = .agg cs) (h : DataW.trod enc Try.prog w base spare held fuel 52 v.cells.toList = some x) : ∃ l : Hd, v = Go.Proofs.Ytnoaonflphameaa.hv l := by
  subst hv
  obtain ⟨xs, n, _, _, hl, hlen, hf⟩ := DataW.trod_struct Try.underlying52 h
  have e4 : Try.prog.cellsOf 52 = 4 := by kernel_rfl
  have e1 : Try.prog.cellsOf 3 = 1 := by kernel_rfl
  have e2 : Try.prog.cellsOf 4 = 1 := by kernel_rfl
  rw [e4] at hl
  obtain ⟨u0, u1, u2, u3, hcs⟩ := of_four hl
  rw [hcs] at hf
  obtain ⟨y0, y1, y2, y3, rfl⟩ := of_four hlen
  have h0 := hf 0 _ rfl
  have h1 := hf 1 _ rfl
  have h2 := hf 2 _ rfl
  have h3 := hf 3 _ rfl
  simp [e1, e2] at h0 h1 h2 h3
  obtain ⟨a0, r0, _⟩ := DataW.trod_bool Try.underlying4 h0
  obtain ⟨a1, r1, _, _⟩ := DataW.trod_int Try.underlying3 h1
  obtain ⟨a2, r2, _, _⟩ := DataW.trod_int Try.underlying3 h2
  obtain ⟨a3, r3, _, _⟩ := DataW.trod_int Try.underlying3 h3
  simp at r0 r1 r2 r3
  refine ⟨⟨a0, a1, a2, a3⟩, ?_⟩
  simp only [Value.cells] at hcs
  rw [← Array.toArray_toList (xs := cs), hcs, r0, r1, r2, r3]
end
end Go.Proofs.Ytnoaonflphameaa
