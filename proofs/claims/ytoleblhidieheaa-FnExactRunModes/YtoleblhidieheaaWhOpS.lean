/- How a list of texts that came in is opened. -/
import Derived.Test.YtoleblhidieheaaWhSl
import Derived.ProofKit
import Derived.OpenShut
import Derived.ChangeOld
import Derived.ChangeSame
import Derived.Deep.Slices
import Derived.ChangeMaps5
namespace Go.Proofs.Ytoleblhidieheaa
open Go.ChangeShapes Go.WideShapes Go.ChangeAt Go.RowKit Go.Deep
section
variable {H : Type} {enc : TypeId × Value → H} {w : World} {base : Nat} {held : Bool}
theorem open_strs {fuel : Nat} {cs : List Value} {x : DataW H × List MemPlace} (h : DataW.trod enc Try.prog w base (fun _ => true) held fuel 24 cs = some x) :
    ∃ (a : Option Addr) (len cap : Nat) (S : Nat → ByteArray), cs = [.slice a len cap] ∧ len ≤ 9223372036854775807 ∧ (∀ i, i < len → (S i).size ≤ 9223372036854775807) ∧ SL w a len S := by
  have hc1 : Try.prog.cellsOf 9 = 1 := by kernel_rfl
  rcases open_slice1 Try.underlying24 hc1 h with ⟨hcs, _⟩ | ⟨a, len, cap, m, n, V, D, Pl, hcs, _, hl, hm, hmm, _, hV⟩
  · exact ⟨none, 0, 0, fun _ => default, hcs, by decide, fun i hi => absurd hi (Nat.not_lt_zero _), fun h => absurd h (Nat.lt_irrefl _)⟩
  · simp only [if_true] at hmm
    subst hmm
    have each : ∀ i, i < len → ∃ s : ByteArray, V i = .string s ∧ s.size ≤ 9223372036854775807 := by
      intro i hi
      obtain ⟨s, h1, _, h3⟩ := DataW.trod_string Try.underlying9 (hV i (by omega)).2
      simp only [List.cons.injEq, and_true] at h1
      exact ⟨s, h1, by unfold maxLen at h3; omega⟩
    obtain ⟨q, hq⟩ := choose_lt (α := ByteArray) each
    refine ⟨some a, len, m, q, hcs, by unfold maxLen at hm; omega, fun i hi => (hq i hi).2, fun h0 => ?_⟩
    obtain ⟨b, off, spot⟩ := a
    have hc0 := (hV 0 (by omega)).1
    have hspot : spot = none := by simpa [Addr.add] using World.cell?_spot hc0
    subst hspot
    refine ⟨b, off, rfl, ?_, fun i hi => ?_⟩
    · have := hc0
      rw [show (⟨b, off, none⟩ : Addr).add 0 = ⟨b, off, none⟩ from rfl] at this
      exact World.block_lt_of_cell? _ _ this
    · rw [← (hq i hi).1, ← (hV i (by omega)).1]
      unfold Addr.add
      by_cases e : i = 0
      · subst e; rfl
      · simp [e]
end
end Go.Proofs.Ytoleblhidieheaa
