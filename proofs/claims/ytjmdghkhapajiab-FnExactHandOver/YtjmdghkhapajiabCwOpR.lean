/- How a slice of slices of ints that came in is opened. -/
import Derived.Test.YtjmdghkhapajiabCwRows
import Derived.Test.YtjmdghkhapajiabInOpen
namespace Go.Proofs.Ytjmdghkhapajiab
open Go.ChangeShapes Go.WideShapes Go.ChangeAt Go.RowKit Go.Deep

section
variable {H : Type} {enc : TypeId × Value → H} {w : World} {base : Nat} {held : Bool}
theorem open_rows {fuel : Nat} {cs : List Value} {x : DataW H × List MemPlace} (h : DataW.trod enc Try.prog w base (fun _ => true) held fuel 22 cs = some x) :
    ∃ (a : Option Addr) (len cap : Nat) (K : Nat → Nat) (F : Nat → Nat → Int), cs = [.slice a len cap] ∧ len ≤ 9223372036854775807 ∧ (∀ i, i < len → K i ≤ 9223372036854775807) ∧ RR w a len K F := by
  have hc1 : Try.prog.cellsOf 23 = 1 := by kernel_rfl
  rcases open_slice1 Try.underlying22 hc1 h with ⟨hcs, _⟩ | ⟨a, len, cap, m, n, V, D, Pl, hcs, _, hl, hm, hmm, _, hV⟩
  · exact ⟨none, 0, 0, fun _ => 0, fun _ _ => 0, hcs, by decide, fun i hi => absurd hi (Nat.not_lt_zero _), fun _ => none, fun _ => 0, fun h => absurd h (Nat.lt_irrefl _), fun i hi => absurd hi (Nat.not_lt_zero _)⟩
  · simp only [if_true] at hmm
    subst hmm
    have each : ∀ i, i < len → ∃ q : Option Addr × Nat × Nat × (Nat → Int), V i = .slice q.1 q.2.1 q.2.2.1 ∧ q.2.1 ≤ 9223372036854775807 ∧ IL w q.1 q.2.1 q.2.2.2 := by
      intro i hi
      obtain ⟨a', l', c', f', h1, h2, h3⟩ := open_il Try.underlying23 Try.underlying3 (by kernel_rfl) (hV i (by omega)).2
      simp only [List.cons.injEq, and_true] at h1
      exact ⟨(a', l', c', f'), h1, h2, h3⟩
    obtain ⟨q, hq⟩ := choose_lt (α := Option Addr × Nat × Nat × (Nat → Int)) each
    refine ⟨some a, len, m, fun i => (q i).2.1, fun i => (q i).2.2.2, hcs, by unfold maxLen at hm; omega, fun i hi => (hq i hi).2.1, fun i => (q i).1, fun i => (q i).2.2.1, fun h0 => ?_, fun i hi => (hq i hi).2.2⟩
    obtain ⟨b, off, spot⟩ := a
    have hc0 := (hV 0 (by omega)).1
    have hspot : spot = none := by simpa [Addr.add] using World.cell?_spot hc0
    subst hspot
    refine ⟨b, off, rfl, ?_, fun i hi => ?_⟩
    · have := hc0
      rw [show (⟨b, off, none⟩ : Addr).add 0 = ⟨b, off, none⟩ from rfl] at this
      exact World.block_lt_of_cell? _ _ this
    · rw [← (hq i hi).1, ← (hV i (by omega)).1]
      unfold Addr.add
      by_cases e : i = 0
      · subst e; rfl
      · simp [e]
end
end Go.Proofs.Ytjmdghkhapajiab
