/- A row of bookings of a call's own that grows. -/
import Derived.Test.YtdpblholoogikaaFkBkN
namespace Go.Proofs.Ytdpblholoogikaa
open Go.RowKit
abbrev ivL (l : List Int) : List Value := l.map (Value.int .i64)
/-- the slice v is the call's own, with m bookings, l their numbers -/
def OwB (w : World) (base : Nat) (v : Value) (m : Nat) (l : List Int) : Prop := l.length = m * 4 ∧ w.ownsRow base 25 4 v m (ivL l)
theorem infoBkd : ∃ i, Try.prog.info? 25 = some i ∧ i.zero = some (bkv 0 0 0 0) ∧ i.size = 4 ∧ i.bytes = 32 := by
  obtain ⟨i, hi, hzz⟩ := Option.map_eq_some_iff.1 infoBk
  simp only [Prod.mk.injEq] at hzz
  exact ⟨i, hi, hzz.1, hzz.2.1, hzz.2.2⟩
theorem four_new (w : World) (p q r s : Value) (t : TypeId) : ∀ j u, [p, q, r, s][j]? = some u → (w.alloc (.cells #[p, q, r, s] t)).cell? ((⟨w.heap.size, 0, none⟩ : Addr).add j) = some u := by
  intro j u hu
  have hb := bx_new (w := w) [p, q, r, s] t rfl
  have hj : j < 4 := by simpa using (List.getElem?_eq_some_iff.1 hu).1
  have hc := hb.c j (by simpa using hj)
  rw [Addr.add_lit, Nat.zero_add, hc, ← hu]
section
variable {w w' : World} {base : Nat} {v : Value} {m : Nat} {l : List Int}
theorem OwB.below (h : OwB w base v m l) (b : Below w.heap.size w w') : OwB w' base v m l := by
  obtain ⟨h0, hl, h⟩ := h
  refine ⟨h0, hl, ?_⟩
  rcases h with h | ⟨g, cap, cur, h1, h2, h3, h4⟩
  · exact .inl h
  · have hg : g < w.heap.size := (Array.getElem?_eq_some_iff.1 h3).1
    exact .inr ⟨g, cap, cur, h1, h2, (b.block g hg).trans h3, h4⟩
theorem OwB.turns {lo hi : Nat} (h : OwB w base v m l) (k : Turns lo hi w w') (hd : hi ≤ base) : OwB w' base v m l := by
  obtain ⟨h0, hl, h⟩ := h
  refine ⟨h0, hl, ?_⟩
  rcases h with h | ⟨g, cap, cur, h1, h2, h3, h4⟩
  · exact .inl h
  · have hg : g < w.heap.size := (Array.getElem?_eq_some_iff.1 h3).1
    exact .inr ⟨g, cap, cur, h1, h2, (k.block g hg (by omega)).trans h3, h4⟩
theorem OwB.shape (h : OwB w base v m l) : ∃ a cap, v = .slice a m cap := by
  obtain ⟨_, _, ⟨rfl, rfl⟩ | ⟨g, cap, cur, rfl, _⟩⟩ := h
  · exact ⟨_, _, rfl⟩
  · exact ⟨_, _, rfl⟩
theorem ivL_get {l : List Int} {i : Nat} (h : i < l.length) : (ivL l)[i]? = some (.int .i64 (l.getD i 0)) := by
  simp [List.getD, h]
theorem OwB.at_ (h : OwB w base v m l) (hk : 0 < m) : ∃ g c, v = .slice (some ⟨g, 0, none⟩) m c ∧ base ≤ g ∧ m ≤ c ∧ IP w g (m * 4) (fun i => l.getD i 0) := by
  obtain ⟨h0, h⟩ := h
  have h' := h
  obtain ⟨_, ⟨_, h2⟩ | ⟨g, cap, cur, hv, hb, hg, h3, _⟩⟩ := h
  · omega
  · subst hv
    refine ⟨g, cap, rfl, hb, h3, (Array.getElem?_eq_some_iff.1 hg).1, fun i hi => ?_, fun j => World.ownsRow.frozenAt h' j⟩
    rw [World.ownsRow.cellAt h' i hi]
    exact ivL_get (by omega)
theorem OwB.lq {a : Option Addr} {c : Nat} (h : OwB w base (.slice a m c) m l) : LQ w base w.heap.size a (m * 4) (fun i => l.getD i 0) := fun h0 => by
  obtain ⟨g, c', e, hg, _, hP⟩ := h.at_ (by omega)
  cases e
  exact ⟨g, rfl, hg, hP.lt, hP⟩
theorem owB_none (w : World) (base : Nat) : OwB w base (.slice none 0 0) 0 [] := ⟨rfl, rfl, .inl ⟨rfl, rfl⟩⟩
theorem owB_app {p q r s : Int} (h0 : l.length = m * 4) (h : w.ownsRow base 25 4 v (m + 1) (ivL l ++ [.int .i64 p, .int .i64 q, .int .i64 r, .int .i64 s])) : OwB w base v (m + 1) (l ++ [p, q, r, s]) := by
  refine ⟨by simp; omega, ?_⟩
  have e : ivL (l ++ [p, q, r, s]) = ivL l ++ [.int .i64 p, .int .i64 q, .int .i64 r, .int .i64 s] := by simp
  rw [e]; exact h
end
/-- a list of bookings and whether it is one -/
def AnsBk (w w' : World) (e : Ending) (m : Nat) (F : Nat → Int) (q : Bool) : Prop := ∃ a c, e = .returned (.tuple #[.slice a m c, .bool q]) ∧ LQ w' w.heap.size w'.heap.size a (m * 4) F
theorem ansBk_nil (w w' : World) (F : Nat → Int) (q : Bool) : AnsBk w w' (.returned (.tuple #[.slice none 0 0, .bool q])) 0 F q := ⟨none, 0, rfl, lq_none _ _ _ _ _⟩
end Go.Proofs.Ytdpblholoogikaa
