/- How a slice of gains that came in is opened: their numbers by one index. -/
import Derived.Test.YthmjoeknkenfgabHdOpen
import Derived.Test.YthmjoeknkenfgabGnBase
import Derived.Deep.Slices
namespace Go.Proofs.Ythmjoeknkenfgab
open Go.ChangeShapes Go.WideShapes Go.ChangeAt Go.RowKit Go.Deep

section
variable {H : Type} {enc : TypeId × Value → H} {w : World} {base : Nat} {held : Bool}

theorem of_two {α : Type} {l : List α} (h : l.length = 2) : ∃ x y, l = [x, y] := by
  match l, h with
  | [x, y], _ => exact ⟨x, y, rfl⟩
theorem of_eight {α : Type} {l : List α} (h : l.length = 8) : ∃ a b c d e f g i, l = [a, b, c, d, e, f, g, i] := by
  match l, h with
  | [a, b, c, d, e, f, g, i], _ => exact ⟨a, b, c, d, e, f, g, i, rfl⟩
theorem gain_cells {spare : Nat → Bool} {fuel : Nat} {cs : List Value} {x : DataW H × List MemPlace} (h : DataW.trod enc Try.prog w base spare held fuel 68 cs = some x) : ∃ (y : Int) (l : Lp), cs = gvs y l := by
  obtain ⟨xs, n, _, _, hl, hlen, hf⟩ := DataW.trod_struct Try.underlying68 h
  have e8 : Try.prog.cellsOf 68 = 8 := by kernel_rfl
  have e7 : Try.prog.cellsOf 23 = 7 := by kernel_rfl
  have e1 : Try.prog.cellsOf 3 = 1 := by kernel_rfl
  rw [e8] at hl
  obtain ⟨u0, u1, u2, u3, u4, u5, u6, u7, rfl⟩ := of_eight hl
  obtain ⟨y0, y1, rfl⟩ := of_two hlen
  have h0 := hf 0 _ rfl
  have h1 := hf 1 _ rfl
  simp [e1, e7] at h0 h1
  obtain ⟨a0, r0, _, _⟩ := DataW.trod_int Try.underlying3 h0
  obtain ⟨l, r1⟩ := loop_cells h1
  simp at r0 r1
  obtain ⟨rfl, rfl, rfl, rfl, rfl, rfl, rfl⟩ := r1
  exact ⟨a0, l, by rw [r0]⟩
theorem addr_add (b off j : Nat) : (⟨b, off, none⟩ : Addr).add j = ⟨b, off + j, none⟩ := by
  unfold Addr.add
  by_cases e : j = 0
  · subst e; rfl
  · simp [e]
theorem open_gains {fuel : Nat} {cs : List Value} {x : DataW H × List MemPlace} (h : DataW.trod enc Try.prog w base (fun _ => true) held fuel 44 cs = some x) :
    ∃ (a : Option Addr) (len cap : Nat) (F : Nat → Int), cs = [.slice a len cap] ∧ len ≤ 9223372036854775807 ∧ IL w a (len * 8) F := by
  rcases open_slice Try.underlying44 h with ⟨hcs, _⟩ | ⟨a, len, cap, m, n, D, Pl, hcs, _, hl, hm, hmm, _, hx⟩
  · exact ⟨none, 0, 0, fun _ => 0, hcs, by decide, IL.none _ _⟩
  · simp only [if_true] at hmm
    subst hmm
    have e8 : Try.prog.cellsOf 68 = 8 := by kernel_rfl
    rw [e8] at hx
    have each : ∀ j, j < len * 8 → ∃ v : Int, w.cell? (a.add j) = some (.int .i64 v) := by
      intro j hj
      obtain ⟨cs', h1, h2⟩ := hx (j / 8) (by omega)
      obtain ⟨_, _, hcell⟩ := World.cells?_some h1
      obtain ⟨p, l, rfl⟩ := gain_cells h2
      have hr : j % 8 < 8 := Nat.mod_lt _ (by decide)
      have hj' : j / 8 * 8 + j % 8 = j := by omega
      have hc := hcell (j % 8) hr
      rw [add_add, hj'] at hc
      rw [hc]
      match j % 8, hr with
      | 0, _ => exact ⟨_, rfl⟩
      | 1, _ => exact ⟨_, rfl⟩
      | 2, _ => exact ⟨_, rfl⟩
      | 3, _ => exact ⟨_, rfl⟩
      | 4, _ => exact ⟨_, rfl⟩
      | 5, _ => exact ⟨_, rfl⟩
      | 6, _ => exact ⟨_, rfl⟩
      | 7, _ => exact ⟨_, rfl⟩
    obtain ⟨F, hF⟩ := choose_lt (α := Int) each
    refine ⟨some a, len, m, F, hcs, by unfold maxLen at hm; omega, fun h0 => ?_⟩
    obtain ⟨b, off, spot⟩ := a
    have hc0 := hF 0 h0
    have hspot : spot = none := by simpa [Addr.add] using World.cell?_spot hc0
    subst hspot
    rw [addr_add] at hc0
    exact ⟨b, off, rfl, World.block_lt_of_cell? _ _ hc0, fun i hi => by rw [← addr_add]; exact hF i hi⟩
end
end Go.Proofs.Ythmjoeknkenfgab
