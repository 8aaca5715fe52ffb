/- RunBus as the model goes: behind its rounds. -/
import Derived.Test.YtldagjgpapnfpaaQBuSM
namespace Go.Proofs.Ytldagjgpapnfpaa
open Go.RowKit
theorem pick2 {n : Nat} {P : Nat → Option Addr → Nat → Prop} (h : ∀ i, i < n → ∃ a c, P i a c) : ∃ (A : Nat → Option Addr) (C : Nat → Nat), ∀ i, i < n → P i (A i) (C i) := by
  have h2 : ∀ i, ∃ ac : Option Addr × Nat, i < n → P i ac.1 ac.2 := fun i => by
    by_cases hi : i < n
    · obtain ⟨a, c, hp⟩ := h i hi
      exact ⟨(a, c), fun _ => hp⟩
    · exact ⟨(none, 0), fun k => absurd k hi⟩
  exact ⟨fun i => (Classical.choose (h2 i)).1, fun i => (Classical.choose (h2 i)).2, fun i hi => Classical.choose_spec (h2 i) hi⟩
/-- the talkers in block g, wherever their queues lie -/
structure NqP (w : World) (g n : Nat) (t : Tks) (S : Nat → Nat → Nat → Int) : Prop where
  lt : 0 < n → g < w.heap.size
  c : ∀ i, i < n → ∃ a c, w.cell? ⟨g, i * 4, none⟩ = some (.slice a (t.qm i) c) ∧ w.cell? ⟨g, i * 4 + 1, none⟩ = some (.int .i64 (t.sh i)) ∧ w.cell? ⟨g, i * 4 + 2, none⟩ = some (.int .i64 (t.er i)) ∧ w.cell? ⟨g, i * 4 + 3, none⟩ = some (.bool (t.of i)) ∧ Shp a (t.qm i) c ∧ ∃ lo hi, FrR w lo hi a (t.qm i) (t.I i) (t.N i) (S i) ∧ (hi ≤ g ∨ g < lo)
  fz : 0 < n → ∀ j, w.frozen? ⟨g, j, none⟩ = false
section
variable {w w' : World} {g n : Nat} {t : Tks} {S : Nat → Nat → Nat → Int}
theorem NqP.on (h : NqP w g n t S) (k : Below w.heap.size w w') : NqP w' g n t S := by
  refine ⟨fun h0 => Nat.lt_of_lt_of_le (h.lt h0) k.size, fun i hi => ?_, fun h0 j => (k.frozen (p := ⟨g, j, none⟩) (h.lt h0)).trans (h.fz h0 j)⟩
  have hl := h.lt (by omega)
  obtain ⟨a, c, c0, c1, c2, c3, hs, lo, hi', hF, hd⟩ := h.c i hi
  exact ⟨a, c, (k.cell (p := ⟨g, _, none⟩) hl).trans c0, (k.cell (p := ⟨g, _, none⟩) hl).trans c1, (k.cell (p := ⟨g, _, none⟩) hl).trans c2, (k.cell (p := ⟨g, _, none⟩) hl).trans c3, hs, lo, hi', hF.on k, hd⟩
theorem NqP.set (h : NqP w g n t S) {i : Nat} (hi : i < n) {a' : Option Addr} {c' lo hi' : Nat} (hs : Shp a' (t.qm i) c') (hF : FrR w lo hi' a' (t.qm i) (t.I i) (t.N i) (S i)) (hd : hi' ≤ g ∨ g < lo) : NqP (w.setCell ⟨g, i * 4, none⟩ (.slice a' (t.qm i) c')) g n t S := by
  have hO := (OnlyIn.of ((Only.refl g w).set (i * 4) (.slice a' (t.qm i) c')) (Nat.le_refl g) (Nat.lt_succ_self g)).turns
  refine ⟨fun h0 => by simpa using h.lt h0, fun j hj => ?_, fun h0 j => by simpa using h.fz h0 j⟩
  obtain ⟨a, c, c0, c1, c2, c3, hs2, lo2, hi2, hF2, hd2⟩ := h.c j hj
  by_cases e : j = i
  · subst e
    exact ⟨a', c', cell_put c0, (cell_oth (by omega)).trans c1, (cell_oth (by omega)).trans c2, (cell_oth (by omega)).trans c3, hs, lo, hi', hF.turns hO (by omega), hd⟩
  · exact ⟨a, c, (cell_oth (by omega)).trans c0, (cell_oth (by omega)).trans c1, (cell_oth (by omega)).trans c2, (cell_oth (by omega)).trans c3, hs2, lo2, hi2, hF2.turns hO (by omega), hd2⟩
theorem NqP.tf (h : NqP w g n t S) {va : Option Addr} (hv : 0 < n → va = some ⟨g, 0, none⟩) : ∃ QA QC AA CC, TkF w va n { t with qa := QA, qc := QC, A := AA, C := CC } S := by
  obtain ⟨QA, QC, hc⟩ := pick2 h.c
  obtain ⟨AA, CC, hF⟩ := choose_fr (QA := QA) (qm := t.qm) (I := t.I) (N := t.N) (S := S) fun i hi => by
    obtain ⟨_, _, _, _, _, lo, hi', hF, _⟩ := hc i hi
    exact hF.ff
  exact ⟨QA, QC, AA, CC, ⟨fun h0 => ⟨g, 0, hv h0, h.lt h0, fun i hi => by
    simp only [Nat.zero_add]
    exact ⟨(hc i hi).1, (hc i hi).2.1, (hc i hi).2.2.1, (hc i hi).2.2.2.1⟩⟩, fun i hi => (hF i hi).h⟩, fun i hi => (hF i hi).y, fun i hi => (hF i hi).s, fun i hi => (hc i hi).2.2.2.2.1⟩
end
theorem NwP.nq {wM w : World} {g n : Nat} {va : Option Addr} {t : Tks} {S : Nat → Nat → Nat → Int} {LF : Nat → Nat} {EC : Nat → Int} {LO HI : Nat → Nat} (h : NwP wM w g n va t S LF EC (fun i => EC i == 255) LO HI) : NqP w g n (nwT t LF EC) (nwS S LF) := by
  refine ⟨fun h0 => Nat.lt_of_lt_of_le (h.lt h0) h.tr.size, fun i hi => ?_, h.fz⟩
  obtain ⟨a, c, c0, c1, c2, c3, hs, hF⟩ := h.c i hi
  exact ⟨a, c, c0, c1, c2, c3, hs, LO i, HI i, hF.turns h.tr (by have := (h.ap i hi).1; omega), (h.ap i hi).1⟩
end Go.Proofs.Ytldagjgpapnfpaa
