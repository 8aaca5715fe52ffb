/- How a list of Booked that came in is opened: their numbers by one index. -/
import Derived.Test.YtdpkmobmlpfjpaaLqBase
import Derived.ProofKit
import Derived.OpenShut
import Derived.ChangeOld
import Derived.ChangeSame
import Derived.Below
import Derived.Deep.Slices
namespace Go.Proofs.Ytdpkmobmlpfjpaa
open Go.ChangeShapes Go.WideShapes Go.ChangeAt Go.RowKit Go.Deep

section
variable {H : Type} {enc : TypeId × Value → H} {w : World} {base : Nat} {held : Bool}
theorem bkp_of {α : Type} {l : List α} (h : l.length = 4) : ∃ x y z u, l = [x, y, z, u] := by
  match l, h with
  | [x, y, z, u], _ => exact ⟨x, y, z, u, rfl⟩
theorem bkp_cells {spare : Nat → Bool} {fuel : Nat} {cs : List Value} {x : DataW H × List MemPlace} (h : DataW.trod enc Try.prog w base spare held fuel 43 cs = some x) :
    ∃ a b c d, cs = [.int .i64 a, .int .i64 b, .int .i64 c, .int .i64 d] := by
  obtain ⟨xs, n, _, _, hl, hlen, hf⟩ := DataW.trod_struct Try.underlying43 h
  have e2 : Try.prog.cellsOf 43 = 4 := by kernel_rfl
  have e1 : Try.prog.cellsOf 3 = 1 := by kernel_rfl
  rw [e2] at hl
  obtain ⟨u0, u1, u2, u3, rfl⟩ := bkp_of hl
  obtain ⟨y0, y1, y2, y3, rfl⟩ := bkp_of hlen
  have h0 := hf 0 _ rfl
  have h1 := hf 1 _ rfl
  have h2 := hf 2 _ rfl
  have h3 := hf 3 _ rfl
  simp [e1] at h0 h1 h2 h3
  obtain ⟨a, ha, _, wa⟩ := DataW.trod_int Try.underlying3 h0
  obtain ⟨b, hb, _, wb⟩ := DataW.trod_int Try.underlying3 h1
  obtain ⟨c, hc, _, wc⟩ := DataW.trod_int Try.underlying3 h2
  obtain ⟨d, hd, _, wd⟩ := DataW.trod_int Try.underlying3 h3
  simp at ha hb hc hd
  exact ⟨a, b, c, d, by rw [ha, hb, hc, hd]⟩
theorem bkp_add (b off j : Nat) : (⟨b, off, none⟩ : Addr).add j = ⟨b, off + j, none⟩ := by
  unfold Addr.add
  by_cases e : j = 0
  · subst e; rfl
  · simp [e]
theorem open_bookeds {fuel : Nat} {cs : List Value} {x : DataW H × List MemPlace} (h : DataW.trod enc Try.prog w base (fun _ => true) held fuel 38 cs = some x) :
    ∃ (a : Option Addr) (len cap : Nat) (F : Nat → Int), cs = [.slice a len cap] ∧ len ≤ 9223372036854775807 ∧ IL w a (len * 4) F := by
  rcases open_slice Try.underlying38 h with ⟨hcs, _⟩ | ⟨a, len, cap, m, n, D, Pl, hcs, _, hl, hm, hmm, _, hx⟩
  · exact ⟨none, 0, 0, fun _ => 0, hcs, by decide, IL.none _ _⟩
  · simp only [if_true] at hmm
    subst hmm
    have e2 : Try.prog.cellsOf 43 = 4 := by kernel_rfl
    rw [e2] at hx
    have each : ∀ j, j < len * 4 → ∃ v : Int, w.cell? (a.add j) = some (.int .i64 v) := by
      intro j hj
      obtain ⟨cs', h1, h2⟩ := hx (j / 4) (by omega)
      obtain ⟨_, _, hcell⟩ := World.cells?_some h1
      obtain ⟨p0, p1, p2, p3, rfl⟩ := bkp_cells h2
      have hr : j % 4 < 4 := Nat.mod_lt _ (by decide)
      have hj' : j / 4 * 4 + j % 4 = j := by omega
      have hc := hcell (j % 4) hr
      rw [add_add, hj'] at hc
      rw [hc]
      match j % 4, hr with
      | 0, _ => exact ⟨p0, rfl⟩
      | 1, _ => exact ⟨p1, rfl⟩
      | 2, _ => exact ⟨p2, rfl⟩
      | 3, _ => exact ⟨p3, rfl⟩
    obtain ⟨F, hF⟩ := choose_lt (α := Int) each
    refine ⟨some a, len, m, F, hcs, by unfold maxLen at hm; omega, fun h0 => ?_⟩
    obtain ⟨b, off, spot⟩ := a
    have hc0 := hF 0 h0
    have hspot : spot = none := by simpa [Addr.add] using World.cell?_spot hc0
    subst hspot
    rw [bkp_add] at hc0
    exact ⟨b, off, rfl, World.block_lt_of_cell? _ _ hc0, fun i hi => by rw [← bkp_add]; exact hF i hi⟩
end
end Go.Proofs.Ytdpkmobmlpfjpaa
