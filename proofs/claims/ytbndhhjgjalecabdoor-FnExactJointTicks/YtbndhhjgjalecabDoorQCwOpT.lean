/- How a slice of ints that came in is opened: its elements by their index. -/
import Derived.Test.YtbndhhjgjalecabDoorQInCore
import Derived.ProofKit
import Derived.OpenShut
import Derived.ChangeOld
import Derived.Below
import Derived.Deep.Slices
import Derived.Test.YtbndhhjgjalecabDoorQClBase
import Derived.ChangeSame
import Derived.Test.YtbndhhjgjalecabDoorQCwTrip1
namespace Go.Proofs.YtbndhhjgjalecabDoor
open Go.ChangeShapes Go.WideShapes Go.ChangeAt Go.RowKit Go.Deep

section
variable {H : Type} {enc : TypeId × Value → H} {P : Program} {w : World} {base : Nat} {held : Bool}

/-- a slice of ints, opened: its length, its elements -/
theorem open_il {t e : TypeId} {fuel : Nat} {cs : List Value} {x : DataW H × List MemPlace} (ht : P.underlying t = some (.slice e)) (he : P.underlying e = some (.int .i64)) (hc : P.cellsOf e = 1)
    (h : DataW.trod enc P w base (fun _ => true) held fuel t cs = some x) :
    ∃ (a : Option Addr) (len cap : Nat) (f : Nat → Int), cs = [.slice a len cap] ∧ len ≤ 9223372036854775807 ∧ IL w a len f := by
  rcases open_slice1 ht hc h with ⟨hcs, _⟩ | ⟨a, len, cap, m, n, V, D, Pl, hcs, _, hl, hm, hmm, _, hV⟩
  · exact ⟨none, 0, 0, fun _ => 0, hcs, by decide, IL.none _ _⟩
  · simp only [if_true] at hmm
    subst hmm
    obtain ⟨f, hf⟩ := choose_lt (α := Int) (n := len) (p := fun i b => V i = .int .i64 b) (fun i hi => by
      obtain ⟨b, hb, _, _⟩ := DataW.trod_int he (hV i (by omega)).2
      simp only [List.cons.injEq, and_true] at hb
      exact ⟨b, hb⟩)
    refine ⟨some a, len, m, f, hcs, by unfold maxLen at hm; omega, fun h0 => ?_⟩
    obtain ⟨b, off, spot⟩ := a
    have hc0 := (hV 0 (by omega)).1
    have hspot : spot = none := by simpa [Addr.add] using World.cell?_spot hc0
    subst hspot
    refine ⟨b, off, rfl, ?_, fun i hi => ?_⟩
    · have := hc0
      rw [show (⟨b, off, none⟩ : Addr).add 0 = ⟨b, off, none⟩ from rfl] at this
      exact World.block_lt_of_cell? _ _ this
    · rw [← hf i hi, ← (hV i (by omega)).1]
      unfold Addr.add
      by_cases e : i = 0
      · subst e; rfl
      · simp [e]
end
end Go.Proofs.YtbndhhjgjalecabDoor

/- How cells that came in are opened. -/
namespace Go.Proofs.YtbndhhjgjalecabDoor
open Go.ChangeShapes Go.WideShapes Go.ChangeAt Go.RowKit Go.Deep

section
variable {H : Type} {enc : TypeId × Value → H} {w : World} {base : Nat} {held : Bool}

theorem two_of {α : Type} {l : List α} (h : l.length = 2) : ∃ x y, l = [x, y] := by
  match l, h with
  | [x, y], _ => exact ⟨x, y, rfl⟩
theorem open_cel {fuel : Nat} {v : Value} {x : DataW H × List MemPlace} {cs : Array Value} (hv : v = .agg cs) (h : DataW.trod enc Tryd.prog w base (fun _ => true) held fuel 24 v.cells.toList = some x) :
    ∃ W0 a n c f, v = cel W0 a n c ∧ n ≤ 9223372036854775807 ∧ IL w a n f := by
  subst hv
  obtain ⟨xs, n, _, _, hl, hlen, hf⟩ := DataW.trod_struct Tryd.underlying24 h
  have e2 : Tryd.prog.cellsOf 24 = 2 := by kernel_rfl
  have e1 : Tryd.prog.cellsOf 3 = 1 := by kernel_rfl
  have e3 : Tryd.prog.cellsOf 22 = 1 := by kernel_rfl
  rw [e2] at hl
  obtain ⟨u0, u1, hcs⟩ := two_of hl
  rw [hcs] at hf
  obtain ⟨y0, y1, rfl⟩ := two_of hlen
  have h0 := hf 0 _ rfl
  have h1 := hf 1 _ rfl
  simp [e1, e3] at h0 h1
  obtain ⟨W0, ha, _, _⟩ := DataW.trod_int Tryd.underlying3 h0
  obtain ⟨a, n, c, f, hb, hn, hF⟩ := open_il Tryd.underlying22 Tryd.underlying3 e1 h1
  simp at ha hb
  refine ⟨W0, a, n, c, f, ?_, hn, hF⟩
  simp only [Value.cells] at hcs
  rw [← Array.toArray_toList (xs := cs), hcs, ha, hb]
end
end Go.Proofs.YtbndhhjgjalecabDoor

/- How a trip that came in is opened. -/
namespace Go.Proofs.YtbndhhjgjalecabDoor
open Go.ChangeShapes Go.WideShapes Go.ChangeAt Go.RowKit

section
variable {H : Type} {enc : TypeId × Value → H} {w : World} {base : Nat} {held : Bool}

theorem tp_two_of {α : Type} {l : List α} (h : l.length = 2) : ∃ x y, l = [x, y] := by
  match l, h with
  | [x, y], _ => exact ⟨x, y, rfl⟩
theorem tp_cells {spare : Nat → Bool} {fuel : Nat} {cs : List Value} {x : DataW H × List MemPlace} (h : DataW.trod enc Tryd.prog w base spare held fuel 26 cs = some x) :
    ∃ a b, cs = [.int .i64 a, .int .i64 b] := by
  obtain ⟨xs, n, _, _, hl, hlen, hf⟩ := DataW.trod_struct Tryd.underlying26 h
  have e2 : Tryd.prog.cellsOf 26 = 2 := by kernel_rfl
  have e1 : Tryd.prog.cellsOf 3 = 1 := by kernel_rfl
  rw [e2] at hl
  obtain ⟨u0, u1, rfl⟩ := tp_two_of hl
  obtain ⟨y0, y1, rfl⟩ := tp_two_of hlen
  have h0 := hf 0 _ rfl
  have h1 := hf 1 _ rfl
  simp [e1] at h0 h1
  obtain ⟨a, ha, _, wa⟩ := DataW.trod_int Tryd.underlying3 h0
  obtain ⟨b, hb, _, wb⟩ := DataW.trod_int Tryd.underlying3 h1
  simp at ha hb
  exact ⟨a, b, by rw [ha, hb]⟩
theorem open_trip {spare : Nat → Bool} {fuel : Nat} {v : Value} {x : DataW H × List MemPlace} {cs : Array Value} (hv : v = .agg cs) (h : DataW.trod enc Tryd.prog w base spare held fuel 26 v.cells.toList = some x) :
    ∃ a b, v = tpv a b := by
  subst hv
  obtain ⟨a, b, e⟩ := tp_cells h
  refine ⟨a, b, ?_⟩
  simp only [Value.cells] at e
  have : cs = #[.int .i64 a, .int .i64 b] := by cases cs; simp_all
  rw [this]
end
end Go.Proofs.YtbndhhjgjalecabDoor
