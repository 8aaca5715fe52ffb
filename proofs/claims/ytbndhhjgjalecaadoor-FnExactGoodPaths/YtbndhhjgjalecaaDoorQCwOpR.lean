/- How a slice of trips that came in is opened: their numbers by one index. -/
import Derived.Test.YtbndhhjgjalecaaDoorQCwOpT
import Derived.Deep.Slices
import Derived.Test.YtbndhhjgjalecaaDoorQCwRows
namespace Go.Proofs.YtbndhhjgjalecaaDoor
open Go.ChangeShapes Go.WideShapes Go.ChangeAt Go.RowKit Go.Deep

section
variable {H : Type} {enc : TypeId × Value → H} {w : World} {base : Nat} {held : Bool}
theorem tp_addr_add (b off j : Nat) : (⟨b, off, none⟩ : Addr).add j = ⟨b, off + j, none⟩ := by
  unfold Addr.add
  by_cases e : j = 0
  · subst e; rfl
  · simp [e]
theorem open_trips {fuel : Nat} {cs : List Value} {x : DataW H × List MemPlace} (h : DataW.trod enc Tryd.prog w base (fun _ => true) held fuel 40 cs = some x) :
    ∃ (a : Option Addr) (len cap : Nat) (F : Nat → Int), cs = [.slice a len cap] ∧ len ≤ 9223372036854775807 ∧ IL w a (len * 2) F := by
  rcases open_slice Tryd.underlying40 h with ⟨hcs, _⟩ | ⟨a, len, cap, m, n, D, Pl, hcs, _, hl, hm, hmm, _, hx⟩
  · exact ⟨none, 0, 0, fun _ => 0, hcs, by decide, IL.none _ _⟩
  · simp only [if_true] at hmm
    subst hmm
    have e2 : Tryd.prog.cellsOf 54 = 2 := by kernel_rfl
    rw [e2] at hx
    have each : ∀ j, j < len * 2 → ∃ v : Int, w.cell? (a.add j) = some (.int .i64 v) := by
      intro j hj
      obtain ⟨cs', h1, h2⟩ := hx (j / 2) (by omega)
      obtain ⟨_, _, hcell⟩ := World.cells?_some h1
      obtain ⟨p, q, rfl⟩ := tp_cells h2
      have hr : j % 2 < 2 := Nat.mod_lt _ (by decide)
      have hj' : j / 2 * 2 + j % 2 = j := by omega
      have hc := hcell (j % 2) hr
      rw [add_add, hj'] at hc
      rw [hc]
      match j % 2, hr with
      | 0, _ => exact ⟨p, rfl⟩
      | 1, _ => exact ⟨q, rfl⟩
    obtain ⟨F, hF⟩ := choose_lt (α := Int) each
    refine ⟨some a, len, m, F, hcs, by unfold maxLen at hm; omega, fun h0 => ?_⟩
    obtain ⟨b, off, spot⟩ := a
    have hc0 := hF 0 h0
    have hspot : spot = none := by simpa [Addr.add] using World.cell?_spot hc0
    subst hspot
    rw [tp_addr_add] at hc0
    exact ⟨b, off, rfl, World.block_lt_of_cell? _ _ hc0, fun i hi => by rw [← tp_addr_add]; exact hF i hi⟩
end
end Go.Proofs.YtbndhhjgjalecaaDoor

/- How a slice of slices of ints that came in is opened. -/
namespace Go.Proofs.YtbndhhjgjalecaaDoor
open Go.ChangeShapes Go.WideShapes Go.ChangeAt Go.RowKit Go.Deep

section
variable {H : Type} {enc : TypeId × Value → H} {w : World} {base : Nat} {held : Bool}
theorem open_rows {fuel : Nat} {cs : List Value} {x : DataW H × List MemPlace} (h : DataW.trod enc Tryd.prog w base (fun _ => true) held fuel 29 cs = some x) :
    ∃ (a : Option Addr) (len cap : Nat) (K : Nat → Nat) (F : Nat → Nat → Int), cs = [.slice a len cap] ∧ len ≤ 9223372036854775807 ∧ (∀ i, i < len → K i ≤ 9223372036854775807) ∧ RR w a len K F := by
  have hc1 : Tryd.prog.cellsOf 23 = 1 := by kernel_rfl
  rcases open_slice1 Tryd.underlying29 hc1 h with ⟨hcs, _⟩ | ⟨a, len, cap, m, n, V, D, Pl, hcs, _, hl, hm, hmm, _, hV⟩
  · exact ⟨none, 0, 0, fun _ => 0, fun _ _ => 0, hcs, by decide, fun i hi => absurd hi (Nat.not_lt_zero _), fun _ => none, fun _ => 0, fun h => absurd h (Nat.lt_irrefl _), fun i hi => absurd hi (Nat.not_lt_zero _)⟩
  · simp only [if_true] at hmm
    subst hmm
    have each : ∀ i, i < len → ∃ q : Option Addr × Nat × Nat × (Nat → Int), V i = .slice q.1 q.2.1 q.2.2.1 ∧ q.2.1 ≤ 9223372036854775807 ∧ IL w q.1 q.2.1 q.2.2.2 := by
      intro i hi
      obtain ⟨a', l', c', f', h1, h2, h3⟩ := open_il Tryd.underlying23 Tryd.underlying3 (by kernel_rfl) (hV i (by omega)).2
      simp only [List.cons.injEq, and_true] at h1
      exact ⟨(a', l', c', f'), h1, h2, h3⟩
    obtain ⟨q, hq⟩ := choose_lt (α := Option Addr × Nat × Nat × (Nat → Int)) each
    refine ⟨some a, len, m, fun i => (q i).2.1, fun i => (q i).2.2.2, hcs, by unfold maxLen at hm; omega, fun i hi => (hq i hi).2.1, fun i => (q i).1, fun i => (q i).2.2.1, fun h0 => ?_, fun i hi => (hq i hi).2.2⟩
    obtain ⟨b, off, spot⟩ := a
    have hc0 := (hV 0 (by omega)).1
    have hspot : spot = none := by simpa [Addr.add] using World.cell?_spot hc0
    subst hspot
    refine ⟨b, off, rfl, ?_, fun i hi => ?_⟩
    · have := hc0
      rw [show (⟨b, off, none⟩ : Addr).add 0 = ⟨b, off, none⟩ from rfl] at this
      exact World.block_lt_of_cell? _ _ this
    · rw [← (hq i hi).1, ← (hV i (by omega)).1]
      unfold Addr.add
      by_cases e : i = 0
      · subst e; rfl
      · simp [e]
end
end Go.Proofs.YtbndhhjgjalecaaDoor
