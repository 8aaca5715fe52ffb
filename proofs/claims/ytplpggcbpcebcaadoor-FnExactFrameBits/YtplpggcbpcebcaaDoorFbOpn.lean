/- How a frame that came in is opened: its bytes by their index, and that they are bytes. -/
import Derived.Test.YtplpggcbpcebcaaDoorFrBase
import Derived.ProofKit
import Derived.OpenShut
import Derived.ChangeOld
import Derived.Below
import Derived.Deep.Slices
import Derived.ChangeSame
namespace Go.Proofs.YtplpggcbpcebcaaDoor
open Go.ChangeShapes Go.WideShapes Go.ChangeAt Go.RowKit Go.Deep

section
variable {H : Type} {enc : TypeId × Value → H} {P : Program} {w : World} {base : Nat} {held : Bool}

/-- a slice of bytes, opened: its length, its elements -/
theorem open_ylb {t e : TypeId} {fuel : Nat} {cs : List Value} {x : DataW H × List MemPlace} (ht : P.underlying t = some (.slice e)) (he : P.underlying e = some (.int .u8)) (hc : P.cellsOf e = 1)
    (h : DataW.trod enc P w base (fun _ => true) held fuel t cs = some x) :
    ∃ (a : Option Addr) (len cap : Nat) (f : Nat → Int), cs = [.slice a len cap] ∧ len ≤ 9223372036854775807 ∧ YL w a len f ∧ ∀ i, i < len → 0 ≤ f i ∧ f i ≤ 255 := by
  rcases open_slice1 ht hc h with ⟨hcs, _⟩ | ⟨a, len, cap, m, n, V, D, Pl, hcs, _, hl, hm, hmm, _, hV⟩
  · exact ⟨none, 0, 0, fun _ => 0, hcs, by decide, YL.none _ _, fun i hi => by omega⟩
  · simp only [if_true] at hmm
    subst hmm
    obtain ⟨f, hf⟩ := choose_lt (α := Int) (n := len) (p := fun i b => V i = .int .u8 b ∧ 0 ≤ b ∧ b ≤ 255) (fun i hi => by
      obtain ⟨b, hb, _, hwf⟩ := DataW.trod_int he (hV i (by omega)).2
      simp only [List.cons.injEq, and_true] at hb
      have hwf' : (decide ((0 : Int) ≤ b) && decide (b ≤ 255)) = true := hwf
      rw [Bool.and_eq_true, decide_eq_true_iff, decide_eq_true_iff] at hwf'
      exact ⟨b, hb, hwf'.1, hwf'.2⟩)
    refine ⟨some a, len, m, f, hcs, by unfold maxLen at hm; omega, fun h0 => ?_, fun i hi => (hf i hi).2⟩
    obtain ⟨b, off, spot⟩ := a
    have hc0 := (hV 0 (by omega)).1
    have hspot : spot = none := by simpa [Addr.add] using World.cell?_spot hc0
    subst hspot
    refine ⟨b, off, rfl, ?_, fun i hi => ?_⟩
    · have := hc0
      rw [show (⟨b, off, none⟩ : Addr).add 0 = ⟨b, off, none⟩ from rfl] at this
      exact World.block_lt_of_cell? _ _ this
    · rw [← (hf i hi).1, ← (hV i (by omega)).1]
      unfold Addr.add
      by_cases e : i = 0
      · subst e; rfl
      · simp [e]
theorem two_of {α : Type} {l : List α} (h : l.length = 2) : ∃ x y, l = [x, y] := by
  match l, h with
  | [x, y], _ => exact ⟨x, y, rfl⟩
theorem open_frb {fuel : Nat} {v : Value} {x : DataW H × List MemPlace} {cs : Array Value} (hv : v = .agg cs) (h : DataW.trod enc Tryd.prog w base (fun _ => true) held fuel 36 v.cells.toList = some x) :
    ∃ W0 a n c f, v = frv W0 a n c ∧ n ≤ 9223372036854775807 ∧ YL w a n f ∧ ∀ i, i < n → 0 ≤ f i ∧ f i ≤ 255 := by
  subst hv
  obtain ⟨xs, n, _, _, hl, hlen, hf⟩ := DataW.trod_struct Tryd.underlying36 h
  have e2 : Tryd.prog.cellsOf 36 = 2 := by kernel_rfl
  have e1 : Tryd.prog.cellsOf 3 = 1 := by kernel_rfl
  have e3 : Tryd.prog.cellsOf 22 = 1 := by kernel_rfl
  rw [e2] at hl
  obtain ⟨u0, u1, hcs⟩ := two_of hl
  rw [hcs] at hf
  obtain ⟨y0, y1, rfl⟩ := two_of hlen
  have h0 := hf 0 _ rfl
  have h1 := hf 1 _ rfl
  simp [e1, e3] at h0 h1
  obtain ⟨W0, ha, _, _⟩ := DataW.trod_int Tryd.underlying3 h0
  obtain ⟨a, n, c, f, hb, hn, hF, hbd⟩ := open_ylb Tryd.underlying22 Tryd.underlying5 (by kernel_rfl) h1
  simp at ha hb
  refine ⟨W0, a, n, c, f, ?_, hn, hF, hbd⟩
  simp only [Value.cells] at hcs
  rw [← Array.toArray_toList (xs := cs), hcs, ha, hb]
end
end Go.Proofs.YtplpggcbpcebcaaDoor
