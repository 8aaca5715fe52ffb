/- How a list of events that came in is opened: their texts by one index. -/
import Derived.Test.YtoleblhidieheaaWhOpS
namespace Go.Proofs.Ytoleblhidieheaa
open Go.ChangeShapes Go.WideShapes Go.ChangeAt Go.RowKit Go.Deep
section
variable {H : Type} {enc : TypeId × Value → H} {w : World} {base : Nat} {held : Bool}
theorem of_two_ev {α : Type} {l : List α} (h : l.length = 2) : ∃ a b, l = [a, b] := by
  match l, h with
  | [a, b], _ => exact ⟨a, b, rfl⟩
theorem ev_cells {spare : Nat → Bool} {fuel : Nat} {cs : List Value} {x : DataW H × List MemPlace} (h : DataW.trod enc Try.prog w base spare held fuel 66 cs = some x) : ∃ p q : ByteArray, cs = [.string p, .string q] ∧ p.size ≤ 9223372036854775807 ∧ q.size ≤ 9223372036854775807 := by
  obtain ⟨xs, n, _, _, hl, hlen, hf⟩ := DataW.trod_struct Try.underlying66 h
  have e2 : Try.prog.cellsOf 66 = 2 := by kernel_rfl
  have e1 : Try.prog.cellsOf 9 = 1 := by kernel_rfl
  rw [e2] at hl
  obtain ⟨u0, u1, rfl⟩ := of_two_ev hl
  obtain ⟨y0, y1, rfl⟩ := of_two_ev hlen
  have h0 := hf 0 _ rfl
  have h1 := hf 1 _ rfl
  simp [e1] at h0 h1
  obtain ⟨a0, r0, _, s0⟩ := DataW.trod_string Try.underlying9 h0
  obtain ⟨a1, r1, _, s1⟩ := DataW.trod_string Try.underlying9 h1
  simp at r0 r1
  exact ⟨a0, a1, by rw [r0, r1], by unfold maxLen at s0; omega, by unfold maxLen at s1; omega⟩
theorem ev_addr_add (b off j : Nat) : (⟨b, off, none⟩ : Addr).add j = ⟨b, off + j, none⟩ := by
  unfold Addr.add
  by_cases e : j = 0
  · subst e; rfl
  · simp [e]
theorem open_events {fuel : Nat} {cs : List Value} {x : DataW H × List MemPlace} (h : DataW.trod enc Try.prog w base (fun _ => true) held fuel 35 cs = some x) :
    ∃ (a : Option Addr) (len cap : Nat) (E : Nat → ByteArray), cs = [.slice a len cap] ∧ len ≤ 9223372036854775807 ∧ (∀ i, i < len * 2 → (E i).size ≤ 9223372036854775807) ∧ SL w a (len * 2) E := by
  rcases open_slice Try.underlying35 h with ⟨hcs, _⟩ | ⟨a, len, cap, m, n, D, Pl, hcs, _, hl, hm, hmm, _, hx⟩
  · exact ⟨none, 0, 0, fun _ => ⟨#[]⟩, hcs, by decide, fun i hi => absurd hi (by omega), fun h => absurd h (by omega)⟩
  · simp only [if_true] at hmm
    subst hmm
    have e2 : Try.prog.cellsOf 66 = 2 := by kernel_rfl
    rw [e2] at hx
    have each : ∀ j, j < len * 2 → ∃ v : ByteArray, w.cell? (a.add j) = some (.string v) ∧ v.size ≤ 9223372036854775807 := by
      intro j hj
      obtain ⟨cs', h1, h2⟩ := hx (j / 2) (by omega)
      obtain ⟨_, _, hcell⟩ := World.cells?_some h1
      obtain ⟨p, q, rfl, sp, sq⟩ := ev_cells h2
      have hr : j % 2 < 2 := Nat.mod_lt _ (by decide)
      have hj' : j / 2 * 2 + j % 2 = j := by omega
      have hc := hcell (j % 2) hr
      rw [add_add, hj'] at hc
      rw [hc]
      match j % 2, hr with
      | 0, _ => exact ⟨p, rfl, sp⟩
      | 1, _ => exact ⟨q, rfl, sq⟩
    obtain ⟨F, hF⟩ := choose_lt (α := ByteArray) each
    refine ⟨some a, len, m, F, hcs, by unfold maxLen at hm; omega, fun i hi => (hF i hi).2, fun h0 => ?_⟩
    obtain ⟨b, off, spot⟩ := a
    have hc0 := (hF 0 h0).1
    have hspot : spot = none := by simpa [Addr.add] using World.cell?_spot hc0
    subst hspot
    rw [ev_addr_add] at hc0
    exact ⟨b, off, rfl, World.block_lt_of_cell? _ _ hc0, fun i hi => by rw [← ev_addr_add]; exact (hF i hi).1⟩
end
end Go.Proofs.Ytoleblhidieheaa
