/- How wishes and boards that came in are opened. -/
import Derived.Test.YtacnegfmdckpbaaDoorWhBd
import Derived.Test.YtacnegfmdckpbaaDoorCwOpR
namespace Go.Proofs.YtacnegfmdckpbaaDoor
open Go.ChangeShapes Go.WideShapes Go.ChangeAt Go.RowKit Go.Deep

theorem two_of {α : Type} {l : List α} (h : l.length = 2) : ∃ a b, l = [a, b] := by
  match l, h with
  | [a, b], _ => exact ⟨a, b, rfl⟩
theorem three_of {α : Type} {l : List α} (h : l.length = 3) : ∃ a b c, l = [a, b, c] := by
  match l, h with
  | [a, b, c], _ => exact ⟨a, b, c, rfl⟩
section
variable {H : Type} {enc : TypeId × Value → H} {w : World} {base : Nat} {held : Bool}
theorem open_strs {fuel : Nat} {cs : List Value} {x : DataW H × List MemPlace} (h : DataW.trod enc Tryd.prog w base (fun _ => true) held fuel 23 cs = some x) :
    ∃ (a : Option Addr) (len cap : Nat) (S : Nat → ByteArray), cs = [.slice a len cap] ∧ len ≤ 9223372036854775807 ∧ (∀ i, i < len → (S i).size ≤ 9223372036854775807) ∧ SL w a len S := by
  have hc1 : Tryd.prog.cellsOf 9 = 1 := by kernel_rfl
  rcases open_slice1 Tryd.underlying23 hc1 h with ⟨hcs, _⟩ | ⟨a, len, cap, m, n, V, D, Pl, hcs, _, hl, hm, hmm, _, hV⟩
  · exact ⟨none, 0, 0, fun _ => default, hcs, by decide, fun i hi => absurd hi (Nat.not_lt_zero _), fun h => absurd h (Nat.lt_irrefl _)⟩
  · simp only [if_true] at hmm
    subst hmm
    have each : ∀ i, i < len → ∃ s : ByteArray, V i = .string s ∧ s.size ≤ 9223372036854775807 := by
      intro i hi
      obtain ⟨s, h1, _, h3⟩ := DataW.trod_string Tryd.underlying9 (hV i (by omega)).2
      simp only [List.cons.injEq, and_true] at h1
      exact ⟨s, h1, by unfold maxLen at h3; omega⟩
    obtain ⟨q, hq⟩ := choose_lt (α := ByteArray) each
    refine ⟨some a, len, m, q, hcs, by unfold maxLen at hm; omega, fun i hi => (hq i hi).2, fun h0 => ?_⟩
    obtain ⟨b, off, spot⟩ := a
    have hc0 := (hV 0 (by omega)).1
    have hspot : spot = none := by simpa [Addr.add] using World.cell?_spot hc0
    subst hspot
    refine ⟨b, off, rfl, ?_, fun i hi => ?_⟩
    · have := hc0
      rw [show (⟨b, off, none⟩ : Addr).add 0 = ⟨b, off, none⟩ from rfl] at this
      exact World.block_lt_of_cell? _ _ this
    · rw [← (hq i hi).1, ← (hV i (by omega)).1]
      unfold Addr.add
      by_cases e : i = 0
      · subst e; rfl
      · simp [e]
theorem open_bools {fuel : Nat} {cs : List Value} {x : DataW H × List MemPlace} (h : DataW.trod enc Tryd.prog w base (fun _ => true) held fuel 35 cs = some x) :
    ∃ (a : Option Addr) (len cap : Nat) (S : Nat → Bool), cs = [.slice a len cap] ∧ len ≤ 9223372036854775807 ∧ BoL w a len S := by
  have hc1 : Tryd.prog.cellsOf 4 = 1 := by kernel_rfl
  rcases open_slice1 Tryd.underlying35 hc1 h with ⟨hcs, _⟩ | ⟨a, len, cap, m, n, V, D, Pl, hcs, _, hl, hm, hmm, _, hV⟩
  · exact ⟨none, 0, 0, fun _ => false, hcs, by decide, fun h => absurd h (Nat.lt_irrefl _)⟩
  · simp only [if_true] at hmm
    subst hmm
    have each : ∀ i, i < len → ∃ s : Bool, V i = .bool s := by
      intro i hi
      obtain ⟨s, h1, _⟩ := DataW.trod_bool Tryd.underlying4 (hV i (by omega)).2
      simp only [List.cons.injEq, and_true] at h1
      exact ⟨s, h1⟩
    obtain ⟨q, hq⟩ := choose_lt (α := Bool) each
    refine ⟨some a, len, m, q, hcs, by unfold maxLen at hm; omega, fun h0 => ?_⟩
    obtain ⟨b, off, spot⟩ := a
    have hc0 := (hV 0 (by omega)).1
    have hspot : spot = none := by simpa [Addr.add] using World.cell?_spot hc0
    subst hspot
    refine ⟨b, off, rfl, ?_, fun i hi => ?_⟩
    · have := hc0
      rw [show (⟨b, off, none⟩ : Addr).add 0 = ⟨b, off, none⟩ from rfl] at this
      exact World.block_lt_of_cell? _ _ this
    · rw [← (hq i hi), ← (hV i (by omega)).1]
      unfold Addr.add
      by_cases e : i = 0
      · subst e; rfl
      · simp [e]
theorem open_wish {fuel : Nat} {v : Value} {x : DataW H × List MemPlace} {cs : Array Value} (hv : v = .agg cs) (h : DataW.trod enc Tryd.prog w base (fun _ => true) held fuel 52 v.cells.toList = some x) :
    ∃ a n c b m d f g, v = wsv a n c b m d ∧ n ≤ 9223372036854775807 ∧ m ≤ 9223372036854775807 ∧ (∀ i, i < n → (f i).size ≤ 9223372036854775807) ∧ (∀ i, i < m → (g i).size ≤ 9223372036854775807) ∧ SL w a n f ∧ SL w b m g := by
  subst hv
  obtain ⟨xs, n, _, _, hl, hlen, hf⟩ := DataW.trod_struct Tryd.underlying52 h
  have e2 : Tryd.prog.cellsOf 52 = 2 := by kernel_rfl
  have e3 : Tryd.prog.cellsOf 23 = 1 := by kernel_rfl
  rw [e2] at hl
  obtain ⟨u0, u1, hcs⟩ := two_of hl
  rw [hcs] at hf
  obtain ⟨y0, y1, rfl⟩ := two_of hlen
  have h0 := hf 0 _ rfl
  have h1 := hf 1 _ rfl
  simp [e3] at h0 h1
  obtain ⟨a, n, c, f, hb, hn, hs, hF⟩ := open_strs h0
  obtain ⟨b, m, d, g, hc, hm, ht, hG⟩ := open_strs h1
  simp at hb hc
  refine ⟨a, n, c, b, m, d, f, g, ?_, hn, hm, hs, ht, hF, hG⟩
  simp only [Value.cells] at hcs
  rw [← Array.toArray_toList (xs := cs), hcs, hb, hc]
theorem open_board {fuel : Nat} {v : Value} {x : DataW H × List MemPlace} {cs : Array Value} (hv : v = .agg cs) (h : DataW.trod enc Tryd.prog w base (fun _ => true) held fuel 57 v.cells.toList = some x) :
    ∃ a n c b m d y p q f g K R, v = bdv a n c b m d y p q ∧ n ≤ 9223372036854775807 ∧ m ≤ 9223372036854775807 ∧ p ≤ 9223372036854775807 ∧ (∀ i, i < n → (f i).size ≤ 9223372036854775807) ∧ (∀ i, i < p → K i ≤ 9223372036854775807) ∧ BD w a n f b m g y p K R := by
  subst hv
  obtain ⟨xs, n, _, _, hl, hlen, hf⟩ := DataW.trod_struct Tryd.underlying57 h
  have e2 : Tryd.prog.cellsOf 57 = 3 := by kernel_rfl
  have e3 : Tryd.prog.cellsOf 23 = 1 := by kernel_rfl
  have e4 : Tryd.prog.cellsOf 35 = 1 := by kernel_rfl
  have e5 : Tryd.prog.cellsOf 36 = 1 := by kernel_rfl
  rw [e2] at hl
  obtain ⟨u0, u1, u2, hcs⟩ := three_of hl
  rw [hcs] at hf
  obtain ⟨y0, y1, y2, rfl⟩ := three_of hlen
  have h0 := hf 0 _ rfl
  have h1 := hf 1 _ rfl
  have h2 := hf 2 _ rfl
  simp [e3, e4, e5] at h0 h1 h2
  obtain ⟨a, n, c, f, hb, hn, hs, hF⟩ := open_strs h0
  obtain ⟨b, m, d, g, hc, hm, hG⟩ := open_bools h1
  obtain ⟨y, p, q, K, R, hd, hp, hK, hR⟩ := open_rows h2
  simp at hb hc hd
  refine ⟨a, n, c, b, m, d, y, p, q, f, g, K, R, ?_, hn, hm, hp, hs, hK, hF, hG, hR⟩
  simp only [Value.cells] at hcs
  rw [← Array.toArray_toList (xs := cs), hcs, hb, hc, hd]
end
end Go.Proofs.YtacnegfmdckpbaaDoor
