/- How a slice of points that came in is opened: its points by their index. -/
import Derived.Test.YtgcnkecfdmafdaaPtOpen
import Derived.Test.YtgcnkecfdmafdaaPtCopyP
import Derived.Deep.SlicePairs
namespace Go.Proofs.Ytgcnkecfdmafdaa
open Go.ChangeShapes Go.WideShapes Go.ChangeAt Go.RowKit Go.Deep

section
variable {H : Type} {enc : TypeId × Value → H} {w : World} {base : Nat} {held : Bool}

theorem addr_add (b off j : Nat) : (⟨b, off, none⟩ : Addr).add j = ⟨b, off + j, none⟩ := by
  unfold Addr.add
  by_cases e : j = 0
  · subst e; rfl
  · simp [e]

theorem open_points {fuel : Nat} {cs : List Value} {x : DataW H × List MemPlace} (h : DataW.trod enc Try.prog w base (fun _ => true) held fuel 41 cs = some x) :
    ∃ (a : Option Addr) (len cap : Nat) (X Y : Nat → Nat), cs = [.slice a len cap] ∧ len ≤ 9223372036854775807 ∧ PA w a len X Y := by
  rcases open_slice_pairs Try.underlying41 Try.underlying24 (by kernel_rfl) rfl rfl (by kernel_rfl) (by kernel_rfl) h with ⟨hcs, _⟩ | ⟨a, len, cap, m, n, V0, V1, D0, D1, P0, P1, hcs, _, hl, hm, hmm, _, hV⟩
  · exact ⟨none, 0, 0, fun _ => 0, fun _ => 0, hcs, by decide, fun i hi => absurd hi (Nat.not_lt_zero _), fun h0 => absurd h0 (Nat.lt_irrefl _)⟩
  · simp only [if_true] at hmm
    subst hmm
    obtain ⟨X, hX⟩ := choose_lt (α := Nat) (n := len) (p := fun i b => V0 i = .float .f64 b ∧ b < 18446744073709551616) (fun i hi => by
      obtain ⟨b, hb, _, hw⟩ := trod_float Try.underlying22 (hV i (by omega)).2.2.1
      simp only [List.cons.injEq, and_true] at hb
      exact ⟨b, hb, by simpa [Lit.wf] using hw⟩)
    obtain ⟨Y, hY⟩ := choose_lt (α := Nat) (n := len) (p := fun i b => V1 i = .float .f64 b ∧ b < 18446744073709551616) (fun i hi => by
      obtain ⟨b, hb, _, hw⟩ := trod_float Try.underlying22 (hV i (by omega)).2.2.2
      simp only [List.cons.injEq, and_true] at hb
      exact ⟨b, hb, by simpa [Lit.wf] using hw⟩)
    refine ⟨some a, len, m, X, Y, hcs, by unfold maxLen at hm; omega, fun i hi => ⟨(hX i hi).2, (hY i hi).2⟩, fun h0 => ?_⟩
    obtain ⟨b, off, spot⟩ := a
    have hc0 := (hV 0 (by omega)).1
    have hspot : spot = none := by simpa [Addr.add] using World.cell?_spot hc0
    subst hspot
    refine ⟨b, off, rfl, ?_, fun i hi => ?_⟩
    · rw [addr_add] at hc0
      exact World.block_lt_of_cell? _ _ hc0
    · have h1 := (hV i (by omega)).1
      have h2 := (hV i (by omega)).2.1
      rw [addr_add, (hX i hi).1] at h1
      rw [addr_add, (hY i hi).1, ← Nat.add_assoc] at h2
      exact ⟨h1, h2⟩
end
end Go.Proofs.Ytgcnkecfdmafdaa
