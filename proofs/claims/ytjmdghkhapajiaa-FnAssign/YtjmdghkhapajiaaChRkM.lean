/- Lists of lists of different lengths, each in a block of its own. -/
import Derived.Test.YtjmdghkhapajiaaCwRM
namespace Go.Proofs.Ytjmdghkhapajiaa
open Go.RowKit

/-- how many numbers the first k rows have -/
def sumK (K : Nat → Nat) : Nat → Nat
  | 0 => 0
  | k + 1 => sumK K k + K k
theorem sumK_le (K : Nat → Nat) : ∀ (n i : Nat), i < n → sumK K i + K i ≤ sumK K n := by
  intro n
  induction n with
  | zero => intro i hi; omega
  | succ n ih =>
    intro i hi
    show sumK K i + K i ≤ sumK K n + K n
    by_cases e : i = n
    · subst e; exact Nat.le_refl _
    · have := ih i (by omega); omega
theorem sumK_mono (K : Nat → Nat) (n i : Nat) (h : i ≤ n) : sumK K i ≤ sumK K n := by
  by_cases e : i = n
  · subst e; exact Nat.le_refl _
  · have := sumK_le K n i (by omega); omega

/-- the list lies in block g, row i (where it has any) in a block of its own; all between lo and hi -/
structure Rk (w : World) (lo hi : Nat) (a : Option Addr) (n : Nat) (K : Nat → Nat) (R : Nat → Nat → Int) (g : Nat) (A : Nat → Option Addr) (C : Nat → Nat) : Prop where
  at_ : a = some ⟨g, 0, none⟩
  glo : lo ≤ g
  ghi : g < hi
  glt : g < w.heap.size
  cell : ∀ i, i < n → w.cell? ⟨g, i, none⟩ = some (.slice (A i) (K i) (C i))
  row : ∀ i, i < n → 0 < K i → ∃ B, A i = some ⟨B, 0, none⟩ ∧ lo ≤ B ∧ B < hi ∧ B ≠ g ∧ IP w B (K i) (R i)
  inj : ∀ i j, i < n → j < n → 0 < K i → 0 < K j → i ≠ j → A i ≠ A j
def RK (w : World) (lo hi : Nat) (a : Option Addr) (n : Nat) (K : Nat → Nat) (R : Nat → Nat → Int) : Prop := 0 < n → ∃ g A C, Rk w lo hi a n K R g A C
section
variable {w w' : World} {lo hi lo' hi' : Nat} {a : Option Addr} {n : Nat} {K : Nat → Nat} {R R' : Nat → Nat → Int} {g : Nat} {A : Nat → Option Addr} {C : Nat → Nat}
theorem Rk.of (h : Rk w lo hi a n K R g A C) (hs : w.heap.size ≤ w'.heap.size) (hb : ∀ x, x < w.heap.size → (lo ≤ x ∧ x < hi) → w'.heap[x]? = w.heap[x]?) : Rk w' lo hi a n K R g A C :=
  ⟨h.at_, h.glo, h.ghi, Nat.lt_of_lt_of_le h.glt hs, fun i hi => (cell_same (hb g h.glt ⟨h.glo, h.ghi⟩) i).trans (h.cell i hi), fun i hi h0 => by
    obtain ⟨B, e1, e2, e3, e4, hr⟩ := h.row i hi h0
    have e := hb B hr.lt ⟨e2, e3⟩
    exact ⟨B, e1, e2, e3, e4, Nat.lt_of_lt_of_le hr.lt hs, fun j hj => (cell_same e j).trans (hr.c j hj), fun j => (frozen_same e j).trans (hr.fz j)⟩, h.inj⟩
theorem RK.on (h : RK w lo hi a n K R) (k : Below w.heap.size w w') : RK w' lo hi a n K R := fun h0 => by
  obtain ⟨g, A, C, q⟩ := h h0
  exact ⟨g, A, C, q.of k.size fun x hx _ => k.block x hx⟩
theorem RK.turns (h : RK w lo hi a n K R) (k : Turns lo' hi' w w') (hd : hi ≤ lo' ∨ hi' ≤ lo) : RK w' lo hi a n K R := fun h0 => by
  obtain ⟨g, A, C, q⟩ := h h0
  exact ⟨g, A, C, q.of k.size fun x hx hy => k.block x hx (by omega)⟩
theorem RK.wide (h : RK w lo hi a n K R) (h0 : lo' ≤ lo) (h1 : hi ≤ hi') : RK w lo' hi' a n K R := fun hn => by
  obtain ⟨g, A, C, q⟩ := h hn
  exact ⟨g, A, C, q.at_, Nat.le_trans h0 q.glo, Nat.lt_of_lt_of_le q.ghi h1, q.glt, q.cell, fun i hi hk => by
    obtain ⟨B, e1, e2, e3, e4, hr⟩ := q.row i hi hk
    exact ⟨B, e1, Nat.le_trans h0 e2, Nat.lt_of_lt_of_le e3 h1, e4, hr⟩, q.inj⟩
theorem RK.rr (h : RK w lo hi a n K R) : RR w a n K R := by
  by_cases h0 : 0 < n
  · obtain ⟨g, A, C, q⟩ := h h0
    exact ⟨A, C, fun _ => ⟨g, 0, q.at_, q.glt, fun i hi => by rw [Nat.zero_add]; exact q.cell i hi⟩, fun i hi hk => by
      obtain ⟨B, e1, e2, e3, e4, hr⟩ := q.row i hi hk
      rw [e1]
      exact hr.il hk⟩
  · exact ⟨fun _ => none, fun _ => 0, fun h => absurd h h0, fun i hi => absurd hi (by omega)⟩
theorem rk_none (w : World) (lo hi : Nat) (a : Option Addr) (K : Nat → Nat) (R : Nat → Nat → Int) : RK w lo hi a 0 K R := fun h => absurd h (Nat.lt_irrefl _)
end
end Go.Proofs.Ytjmdghkhapajiaa
