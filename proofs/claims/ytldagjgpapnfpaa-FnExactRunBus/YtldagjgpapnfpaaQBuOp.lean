/- How a list of talkers that came in is opened: their frames, their frames' bytes. -/
import Derived.Test.YtldagjgpapnfpaaQBuB
import Derived.Test.YtldagjgpapnfpaaQYlOpen
import Derived.ChangeSame
namespace Go.Proofs.Ytldagjgpapnfpaa
open Go.ChangeShapes Go.WideShapes Go.ChangeAt Go.RowKit Go.Deep

section
variable {H : Type} {enc : TypeId × Value → H} {w : World} {base : Nat} {held : Bool}
theorem tko_two {α : Type} {l : List α} (h : l.length = 2) : ∃ x y, l = [x, y] := by
  match l, h with
  | [x, y], _ => exact ⟨x, y, rfl⟩
theorem tko_four {α : Type} {l : List α} (h : l.length = 4) : ∃ x y z u, l = [x, y, z, u] := by
  match l, h with
  | [x, y, z, u], _ => exact ⟨x, y, z, u, rfl⟩
theorem tko_add (b off j : Nat) : (⟨b, off, none⟩ : Addr).add j = ⟨b, off + j, none⟩ := by
  unfold Addr.add
  by_cases e : j = 0
  · subst e; rfl
  · simp [e]
/-- one frame, as it is laid -/
structure FrE where
  I : Int
  A : Option Addr
  N : Nat
  C : Nat
  S : Nat → Int
instance : Inhabited FrE := ⟨⟨0, none, 0, 0, fun _ => 0⟩⟩
/-- one talker, as it is laid -/
structure TkE where
  qa : Option Addr
  qm : Nat
  qc : Nat
  sh : Int
  er : Int
  of : Bool
  I : Nat → Int
  A : Nat → Option Addr
  N : Nat → Nat
  C : Nat → Nat
  S : Nat → Nat → Int
instance : Inhabited TkE := ⟨⟨none, 0, 0, 0, 0, false, fun _ => 0, fun _ => none, fun _ => 0, fun _ => 0, fun _ _ => 0⟩⟩
theorem fro_cells {fuel : Nat} {cs : List Value} {x : DataW H × List MemPlace} (h : DataW.trod enc Try.prog w base (fun _ => true) held fuel 109 cs = some x) :
    ∃ q : FrE, cs = [.int .i64 q.I, .slice q.A q.N q.C] ∧ q.N ≤ 9223372036854775807 ∧ YL w q.A q.N q.S := by
  obtain ⟨xs, n, _, _, hl, hlen, hf⟩ := DataW.trod_struct Try.underlying109 h
  have e2 : Try.prog.cellsOf 109 = 2 := by kernel_rfl
  have e1 : Try.prog.cellsOf 3 = 1 := by kernel_rfl
  have e3 : Try.prog.cellsOf 22 = 1 := by kernel_rfl
  rw [e2] at hl
  obtain ⟨u0, u1, rfl⟩ := tko_two hl
  obtain ⟨y0, y1, rfl⟩ := tko_two hlen
  have h0 := hf 0 _ rfl
  have h1 := hf 1 _ rfl
  simp [e1, e3] at h0 h1
  obtain ⟨W0, ha, _, _⟩ := DataW.trod_int Try.underlying3 h0
  obtain ⟨a, n, c, f, hb, hn, hF⟩ := open_yl Try.underlying22 Try.underlying5 (by kernel_rfl) h1
  simp at ha hb
  exact ⟨⟨W0, a, n, c, f⟩, by rw [ha, hb], hn, hF⟩
theorem open_frs {fuel : Nat} {cs : List Value} {x : DataW H × List MemPlace} (h : DataW.trod enc Try.prog w base (fun _ => true) held fuel 74 cs = some x) :
    ∃ (a : Option Addr) (len cap : Nat) (I : Nat → Int) (A : Nat → Option Addr) (N C : Nat → Nat) (S : Nat → Nat → Int), cs = [.slice a len cap] ∧ len ≤ 9223372036854775807 ∧ (∀ j, j < len → N j ≤ 9223372036854775807) ∧ FrH w a len I A N C ∧ ∀ j, j < len → YL w (A j) (N j) (S j) := by
  rcases open_slice Try.underlying74 h with ⟨hcs, _⟩ | ⟨a, len, cap, m, n, D, Pl, hcs, _, hl, hm, hmm, _, hx⟩
  · exact ⟨none, 0, 0, fun _ => 0, fun _ => none, fun _ => 0, fun _ => 0, fun _ _ => 0, hcs, by decide, fun j hj => absurd hj (Nat.not_lt_zero _), fun h => absurd h (Nat.lt_irrefl _), fun j hj => absurd hj (Nat.not_lt_zero _)⟩
  · simp only [if_true] at hmm
    subst hmm
    have e2 : Try.prog.cellsOf 109 = 2 := by kernel_rfl
    rw [e2] at hx
    have each : ∀ j, j < len → ∃ q : FrE, (w.cell? (a.add (j * 2)) = some (.int .i64 q.I) ∧ w.cell? (a.add (j * 2 + 1)) = some (.slice q.A q.N q.C)) ∧ q.N ≤ 9223372036854775807 ∧ YL w q.A q.N q.S := by
      intro j hj
      obtain ⟨cs', h1, h2⟩ := hx j (by omega)
      obtain ⟨_, _, hcell⟩ := World.cells?_some h1
      obtain ⟨q, rfl, hq1, hq2⟩ := fro_cells h2
      have c0 := hcell 0 (by decide)
      have c1 := hcell 1 (by decide)
      rw [add_add] at c0 c1
      exact ⟨q, ⟨c0, c1⟩, hq1, hq2⟩
    obtain ⟨q, hq⟩ := choose_lt (α := FrE) each
    refine ⟨some a, len, m, fun j => (q j).I, fun j => (q j).A, fun j => (q j).N, fun j => (q j).C, fun j => (q j).S, hcs, by unfold maxLen at hm; omega, fun j hj => (hq j hj).2.1, fun h0 => ?_, fun j hj => (hq j hj).2.2⟩
    obtain ⟨b, off, spot⟩ := a
    have hc0 := (hq 0 h0).1.1
    have hspot : spot = none := by simpa [Addr.add] using World.cell?_spot hc0
    subst hspot
    rw [tko_add] at hc0
    refine ⟨b, off, rfl, World.block_lt_of_cell? _ _ hc0, fun j hj => ?_⟩
    have := (hq j hj).1
    rw [tko_add, tko_add] at this
    exact this
theorem tko_cells {fuel : Nat} {cs : List Value} {x : DataW H × List MemPlace} (h : DataW.trod enc Try.prog w base (fun _ => true) held fuel 76 cs = some x) :
    ∃ q : TkE, cs = [.slice q.qa q.qm q.qc, .int .i64 q.sh, .int .i64 q.er, .bool q.of] ∧ q.qm ≤ 9223372036854775807 ∧ (∀ j, j < q.qm → q.N j ≤ 9223372036854775807) ∧ FrH w q.qa q.qm q.I q.A q.N q.C ∧ ∀ j, j < q.qm → YL w (q.A j) (q.N j) (q.S j) := by
  obtain ⟨xs, n, _, _, hl, hlen, hf⟩ := DataW.trod_struct Try.underlying76 h
  have e2 : Try.prog.cellsOf 76 = 4 := by kernel_rfl
  have e1 : Try.prog.cellsOf 3 = 1 := by kernel_rfl
  have e3 : Try.prog.cellsOf 74 = 1 := by kernel_rfl
  have e4 : Try.prog.cellsOf 4 = 1 := by kernel_rfl
  rw [e2] at hl
  obtain ⟨u0, u1, u2, u3, rfl⟩ := tko_four hl
  obtain ⟨y0, y1, y2, y3, rfl⟩ := tko_four hlen
  have h0 := hf 0 _ rfl
  have h1 := hf 1 _ rfl
  have h2 := hf 2 _ rfl
  have h3 := hf 3 _ rfl
  simp [e1, e3, e4] at h0 h1 h2 h3
  obtain ⟨a, len, cap, I, A, N, C, S, ha, g1, g2, g3, g4⟩ := open_frs h0
  obtain ⟨b, hb, _, _⟩ := DataW.trod_int Try.underlying3 h1
  obtain ⟨c, hc, _, _⟩ := DataW.trod_int Try.underlying3 h2
  obtain ⟨d, hd, _⟩ := DataW.trod_bool Try.underlying4 h3
  simp at ha hb hc hd
  exact ⟨⟨a, len, cap, b, c, d, I, A, N, C, S⟩, by rw [ha, hb, hc, hd], g1, g2, g3, g4⟩
theorem open_talkers {fuel : Nat} {cs : List Value} {x : DataW H × List MemPlace} (h : DataW.trod enc Try.prog w base (fun _ => true) held fuel 32 cs = some x) :
    ∃ (a : Option Addr) (len cap : Nat) (t : Tks) (S : Nat → Nat → Nat → Int), cs = [.slice a len cap] ∧ len ≤ 9223372036854775807 ∧ (∀ i, i < len → t.qm i ≤ 9223372036854775807) ∧ (∀ i, i < len → ∀ j, j < t.qm i → t.N i j ≤ 9223372036854775807) ∧ TkH w a len t ∧ ∀ i, i < len → ∀ j, j < t.qm i → YL w (t.A i j) (t.N i j) (S i j) := by
  rcases open_slice Try.underlying32 h with ⟨hcs, _⟩ | ⟨a, len, cap, m, n, D, Pl, hcs, _, hl, hm, hmm, _, hx⟩
  · exact ⟨none, 0, 0, ⟨fun _ => none, fun _ => 0, fun _ => 0, fun _ => 0, fun _ => 0, fun _ => false, fun _ _ => 0, fun _ _ => none, fun _ _ => 0, fun _ _ => 0⟩, fun _ _ _ => 0, hcs, by decide, fun j hj => absurd hj (Nat.not_lt_zero _), fun j hj => absurd hj (Nat.not_lt_zero _), ⟨fun h => absurd h (Nat.lt_irrefl _), fun j hj => absurd hj (Nat.not_lt_zero _)⟩, fun j hj => absurd hj (Nat.not_lt_zero _)⟩
  · simp only [if_true] at hmm
    subst hmm
    have e2 : Try.prog.cellsOf 76 = 4 := by kernel_rfl
    rw [e2] at hx
    have each : ∀ j, j < len → ∃ q : TkE, (w.cell? (a.add (j * 4)) = some (.slice q.qa q.qm q.qc) ∧ w.cell? (a.add (j * 4 + 1)) = some (.int .i64 q.sh) ∧ w.cell? (a.add (j * 4 + 2)) = some (.int .i64 q.er) ∧ w.cell? (a.add (j * 4 + 3)) = some (.bool q.of)) ∧ q.qm ≤ 9223372036854775807 ∧ (∀ j, j < q.qm → q.N j ≤ 9223372036854775807) ∧ FrH w q.qa q.qm q.I q.A q.N q.C ∧ ∀ j, j < q.qm → YL w (q.A j) (q.N j) (q.S j) := by
      intro j hj
      obtain ⟨cs', h1, h2⟩ := hx j (by omega)
      obtain ⟨_, _, hcell⟩ := World.cells?_some h1
      obtain ⟨q, rfl, hq⟩ := tko_cells h2
      have c0 := hcell 0 (by decide)
      have c1 := hcell 1 (by decide)
      have c2 := hcell 2 (by decide)
      have c3 := hcell 3 (by decide)
      rw [add_add] at c0 c1 c2 c3
      exact ⟨q, ⟨c0, c1, c2, c3⟩, hq⟩
    obtain ⟨q, hq⟩ := choose_lt (α := TkE) each
    refine ⟨some a, len, m, ⟨fun j => (q j).qa, fun j => (q j).qm, fun j => (q j).qc, fun j => (q j).sh, fun j => (q j).er, fun j => (q j).of, fun j => (q j).I, fun j => (q j).A, fun j => (q j).N, fun j => (q j).C⟩, fun j => (q j).S, hcs, by unfold maxLen at hm; omega, fun j hj => (hq j hj).2.1, fun j hj => (hq j hj).2.2.1, ⟨fun h0 => ?_, fun j hj => (hq j hj).2.2.2.1⟩, fun j hj => (hq j hj).2.2.2.2⟩
    obtain ⟨b, off, spot⟩ := a
    have hc0 := (hq 0 h0).1.1
    have hspot : spot = none := by simpa [Addr.add] using World.cell?_spot hc0
    subst hspot
    rw [tko_add] at hc0
    refine ⟨b, off, rfl, World.block_lt_of_cell? _ _ hc0, fun j hj => ?_⟩
    have := (hq j hj).1
    simp only [tko_add] at this
    exact this
end
end Go.Proofs.Ytldagjgpapnfpaa
