/- Lists of frames, and of talkers, of a call's own: their blocks apart from one another. -/
import Derived.Test.YtldagjgpapnfpaaQBuB
namespace Go.Proofs.Ytldagjgpapnfpaa
open Go.RowKit
/-- what a slice that came from somewhere looks like -/
def Shp (a : Option Addr) (n c : Nat) : Prop := n ≤ c ∧ ((a = none ∧ n = 0 ∧ c = 0) ∨ ∃ b o, a = some ⟨b, o, none⟩)
theorem shp_at (b o : Nat) {n c : Nat} (h : n ≤ c) : Shp (some ⟨b, o, none⟩) n c := ⟨h, .inr ⟨b, o, rfl⟩⟩
theorem shp_none : Shp none 0 0 := ⟨Nat.le_refl _, .inl ⟨rfl, rfl, rfl⟩⟩
section
variable {w w' : World} {lo hi lo' hi' : Nat}
theorem VQ.of {a : Option Addr} {n : Nat} {f : Nat → Value} (h : VQ w lo hi a n f) (hs : w.heap.size ≤ w'.heap.size) (hb : ∀ x, x < w.heap.size → lo ≤ x → x < hi → w'.heap[x]? = w.heap[x]?) : VQ w' lo hi a n f := fun h0 => by
  obtain ⟨b, rfl, h1, h2, hP⟩ := h h0
  exact ⟨b, rfl, h1, h2, hP.of hs (hb b hP.lt h1 h2)⟩
theorem mono_le {D : Nat → Nat} {m : Nat} (h : ∀ j, j < m → D j ≤ D (j + 1)) {i : Nat} : ∀ j, i ≤ j → j ≤ m → D i ≤ D j
  | 0, h1, _ => by rw [Nat.le_zero.1 h1]; exact Nat.le_refl _
  | j + 1, h1, h2 => by
    by_cases e : i = j + 1
    · rw [e]; exact Nat.le_refl _
    · exact Nat.le_trans (mono_le h j (by omega) (by omega)) (h j (by omega))
/-- frames in block g, their bytes behind it, each one's behind those ahead -/
structure FrP (w : World) (lo hi g m : Nat) (I : Nat → Int) (N : Nat → Nat) (S : Nat → Nat → Int) (A : Nat → Option Addr) (C D : Nat → Nat) : Prop where
  glo : lo ≤ g
  gd : g < D 0
  hi : D m ≤ hi
  mon : ∀ j, j < m → D j ≤ D (j + 1)
  lt : g < w.heap.size
  c : ∀ j, j < m → w.cell? ⟨g, j * 2, none⟩ = some (.int .i64 (I j)) ∧ w.cell? ⟨g, j * 2 + 1, none⟩ = some (.slice (A j) (N j) (C j))
  fz : ∀ i, w.frozen? ⟨g, i, none⟩ = false
  y : ∀ j, j < m → VQ w (D j) (D (j + 1)) (A j) (N j) (fun k => .int .u8 (S j k))
  s : ∀ j, j < m → Shp (A j) (N j) (C j)
def FrQ (w : World) (lo hi : Nat) (a : Option Addr) (m : Nat) (I : Nat → Int) (N : Nat → Nat) (S : Nat → Nat → Int) : Prop := 0 < m → ∃ g A C D, a = some ⟨g, 0, none⟩ ∧ FrP w lo hi g m I N S A C D
section
variable {g m : Nat} {a : Option Addr} {I I' : Nat → Int} {N N' : Nat → Nat} {S S' : Nat → Nat → Int} {A : Nat → Option Addr} {C D : Nat → Nat}
theorem FrP.d0 (h : FrP w lo hi g m I N S A C D) : D 0 ≤ D m := mono_le h.mon m (Nat.zero_le _) (Nat.le_refl _)
theorem FrP.ghi (h : FrP w lo hi g m I N S A C D) : g < hi := by have := h.d0; have := h.gd; have := h.hi; omega
theorem FrP.dlo (h : FrP w lo hi g m I N S A C D) {j : Nat} (hj : j ≤ m) : lo ≤ D j ∧ g < D j := by
  have := mono_le h.mon j (Nat.zero_le _) hj
  have := h.gd; have := h.glo; omega
theorem FrP.dhi (h : FrP w lo hi g m I N S A C D) {j : Nat} (hj : j ≤ m) : D j ≤ hi := Nat.le_trans (mono_le h.mon m hj (Nat.le_refl _)) h.hi
theorem FrP.of (h : FrP w lo hi g m I N S A C D) (hs : w.heap.size ≤ w'.heap.size) (hb : ∀ x, x < w.heap.size → lo ≤ x → x < hi → w'.heap[x]? = w.heap[x]?) : FrP w' lo hi g m I N S A C D :=
  have e := hb g h.lt h.glo h.ghi
  ⟨h.glo, h.gd, h.hi, h.mon, Nat.lt_of_lt_of_le h.lt hs, fun j hj => ⟨(cell_same e _).trans (h.c j hj).1, (cell_same e _).trans (h.c j hj).2⟩, fun i => (frozen_same e i).trans (h.fz i),
    fun j hj => (h.y j hj).of hs fun x h1 h2 h3 => hb x h1 (Nat.le_trans (h.dlo (Nat.le_of_lt hj)).1 h2) (Nat.lt_of_lt_of_le h3 (h.dhi hj)), h.s⟩
theorem FrQ.of (h : FrQ w lo hi a m I N S) (hs : w.heap.size ≤ w'.heap.size) (hb : ∀ x, x < w.heap.size → lo ≤ x → x < hi → w'.heap[x]? = w.heap[x]?) : FrQ w' lo hi a m I N S := fun h0 => by
  obtain ⟨g, A, C, D, e, hP⟩ := h h0
  exact ⟨g, A, C, D, e, hP.of hs hb⟩
theorem FrQ.on (h : FrQ w lo hi a m I N S) (k : Below w.heap.size w w') : FrQ w' lo hi a m I N S := h.of k.size fun x h1 _ _ => k.block x h1
theorem FrQ.turns (h : FrQ w lo hi a m I N S) (k : Turns lo' hi' w w') (hd : hi ≤ lo' ∨ hi' ≤ lo) : FrQ w' lo hi a m I N S := h.of k.size fun x h1 _ _ => k.block x h1 (by omega)
theorem FrP.wide (h : FrP w lo hi g m I N S A C D) (h0 : lo' ≤ lo) (h1 : hi ≤ hi') : FrP w lo' hi' g m I N S A C D := ⟨Nat.le_trans h0 h.glo, h.gd, Nat.le_trans h.hi h1, h.mon, h.lt, h.c, h.fz, h.y, h.s⟩
theorem FrQ.wide (h : FrQ w lo hi a m I N S) (h0 : lo' ≤ lo) (h1 : hi ≤ hi') : FrQ w lo' hi' a m I N S := fun hn => by
  obtain ⟨g, A, C, D, e, hP⟩ := h hn
  exact ⟨g, A, C, D, e, hP.wide h0 h1⟩
theorem frq_none (w : World) (lo hi : Nat) (a : Option Addr) (I : Nat → Int) (N : Nat → Nat) (S : Nat → Nat → Int) : FrQ w lo hi a 0 I N S := fun h => absurd h (Nat.lt_irrefl _)
/-- frames as they are read: their bytes too -/
structure FrF (w : World) (a : Option Addr) (m : Nat) (I : Nat → Int) (A : Nat → Option Addr) (N C : Nat → Nat) (S : Nat → Nat → Int) : Prop where
  h : FrH w a m I A N C
  y : ∀ j, j < m → YL w (A j) (N j) (S j)
  s : ∀ j, j < m → Shp (A j) (N j) (C j)
theorem FrF.below (h : FrF w a m I A N C S) (k : Below w.heap.size w w') : FrF w' a m I A N C S := ⟨h.h.below k, fun j hj => (h.y j hj).below k, h.s⟩
theorem FrP.ff (h : FrP w lo hi g m I N S A C D) : FrF w (some ⟨g, 0, none⟩) m I A N C S :=
  ⟨fun _ => ⟨g, 0, rfl, h.lt, fun j hj => by rw [Nat.zero_add]; exact h.c j hj⟩, fun j hj => (h.y j hj).yl, h.s⟩
theorem FrQ.ff (h : FrQ w lo hi a m I N S) : ∃ A C, FrF w a m I A N C S := by
  by_cases h0 : 0 < m
  · obtain ⟨g, A, C, D, rfl, hP⟩ := h h0
    exact ⟨A, C, hP.ff⟩
  · exact ⟨fun _ => none, fun _ => 0, fun h => absurd h h0, fun j hj => absurd hj (by omega), fun j hj => absurd hj (by omega)⟩
/-- the frames behind the first k -/
theorem FrF.drop (h : FrF w a m I A N C S) {k : Nat} (hk : k ≤ m) (h0 : 0 < m) : ∃ b off, a = some ⟨b, off, none⟩ ∧ FrF w (some ⟨b, off + k * 2, none⟩) (m - k) (fun j => I (k + j)) (fun j => A (k + j)) (fun j => N (k + j)) (fun j => C (k + j)) (fun j => S (k + j)) := by
  obtain ⟨b, off, e, hl, hc⟩ := h.h h0
  refine ⟨b, off, e, fun _ => ⟨b, _, rfl, hl, fun j hj => ?_⟩, fun j hj => h.y (k + j) (by omega), fun j hj => h.s (k + j) (by omega)⟩
  have := hc (k + j) (by omega)
  rw [show off + k * 2 + j * 2 = off + (k + j) * 2 by omega]
  exact this
end
/-- talkers in block g, their frames behind it -/
structure TkP (w : World) (lo hi g n : Nat) (t : Tks) (S : Nat → Nat → Nat → Int) (QA : Nat → Option Addr) (QC D : Nat → Nat) : Prop where
  glo : lo ≤ g
  gd : g < D 0
  hi : D n ≤ hi
  mon : ∀ j, j < n → D j ≤ D (j + 1)
  lt : g < w.heap.size
  c : ∀ i, i < n → w.cell? ⟨g, i * 4, none⟩ = some (.slice (QA i) (t.qm i) (QC i)) ∧ w.cell? ⟨g, i * 4 + 1, none⟩ = some (.int .i64 (t.sh i)) ∧ w.cell? ⟨g, i * 4 + 2, none⟩ = some (.int .i64 (t.er i)) ∧ w.cell? ⟨g, i * 4 + 3, none⟩ = some (.bool (t.of i))
  fz : ∀ i, w.frozen? ⟨g, i, none⟩ = false
  f : ∀ i, i < n → FrQ w (D i) (D (i + 1)) (QA i) (t.qm i) (t.I i) (t.N i) (S i)
  s : ∀ i, i < n → Shp (QA i) (t.qm i) (QC i)
def TkQ (w : World) (lo hi : Nat) (a : Option Addr) (n : Nat) (t : Tks) (S : Nat → Nat → Nat → Int) : Prop := 0 < n → ∃ g QA QC D, a = some ⟨g, 0, none⟩ ∧ TkP w lo hi g n t S QA QC D
/-- talkers as they are read, their frames' bytes too -/
structure TkF (w : World) (a : Option Addr) (n : Nat) (t : Tks) (S : Nat → Nat → Nat → Int) : Prop where
  h : TkH w a n t
  y : ∀ i, i < n → ∀ j, j < t.qm i → YL w (t.A i j) (t.N i j) (S i j)
  s : ∀ i, i < n → ∀ j, j < t.qm i → Shp (t.A i j) (t.N i j) (t.C i j)
  q : ∀ i, i < n → Shp (t.qa i) (t.qm i) (t.qc i)
theorem TkF.below {a : Option Addr} {n : Nat} {t : Tks} {S : Nat → Nat → Nat → Int} (h : TkF w a n t S) (k : Below w.heap.size w w') : TkF w' a n t S := ⟨h.h.below k, fun i hi j hj => (h.y i hi j hj).below k, h.s, h.q⟩
theorem TkF.fr {a : Option Addr} {n : Nat} {t : Tks} {S : Nat → Nat → Nat → Int} (h : TkF w a n t S) {i : Nat} (hi : i < n) : FrF w (t.qa i) (t.qm i) (t.I i) (t.A i) (t.N i) (t.C i) (S i) := ⟨h.h.fr i hi, h.y i hi, h.s i hi⟩
section
variable {g n : Nat} {a : Option Addr} {t t' : Tks} {S S' : Nat → Nat → Nat → Int} {QA : Nat → Option Addr} {QC D : Nat → Nat}
theorem TkP.ghi (h : TkP w lo hi g n t S QA QC D) : g < hi := by have := mono_le h.mon n (Nat.zero_le _) (Nat.le_refl _); have := h.gd; have := h.hi; omega
theorem TkP.dlo (h : TkP w lo hi g n t S QA QC D) {j : Nat} (hj : j ≤ n) : lo ≤ D j ∧ g < D j := by
  have := mono_le h.mon j (Nat.zero_le _) hj
  have := h.gd; have := h.glo; omega
theorem TkP.dhi (h : TkP w lo hi g n t S QA QC D) {j : Nat} (hj : j ≤ n) : D j ≤ hi := Nat.le_trans (mono_le h.mon n hj (Nat.le_refl _)) h.hi
theorem TkP.of (h : TkP w lo hi g n t S QA QC D) (hs : w.heap.size ≤ w'.heap.size) (hb : ∀ x, x < w.heap.size → lo ≤ x → x < hi → w'.heap[x]? = w.heap[x]?) : TkP w' lo hi g n t S QA QC D :=
  have e := hb g h.lt h.glo h.ghi
  ⟨h.glo, h.gd, h.hi, h.mon, Nat.lt_of_lt_of_le h.lt hs, fun j hj => ⟨(cell_same e _).trans (h.c j hj).1, (cell_same e _).trans (h.c j hj).2.1, (cell_same e _).trans (h.c j hj).2.2.1, (cell_same e _).trans (h.c j hj).2.2.2⟩, fun i => (frozen_same e i).trans (h.fz i),
    fun j hj => (h.f j hj).of hs fun x h1 h2 h3 => hb x h1 (Nat.le_trans (h.dlo (Nat.le_of_lt hj)).1 h2) (Nat.lt_of_lt_of_le h3 (h.dhi hj)), h.s⟩
theorem TkQ.of (h : TkQ w lo hi a n t S) (hs : w.heap.size ≤ w'.heap.size) (hb : ∀ x, x < w.heap.size → lo ≤ x → x < hi → w'.heap[x]? = w.heap[x]?) : TkQ w' lo hi a n t S := fun h0 => by
  obtain ⟨g, A, C, D, e, hP⟩ := h h0
  exact ⟨g, A, C, D, e, hP.of hs hb⟩
theorem TkQ.on (h : TkQ w lo hi a n t S) (k : Below w.heap.size w w') : TkQ w' lo hi a n t S := h.of k.size fun x h1 _ _ => k.block x h1
theorem TkQ.turns (h : TkQ w lo hi a n t S) (k : Turns lo' hi' w w') (hd : hi ≤ lo' ∨ hi' ≤ lo) : TkQ w' lo hi a n t S := h.of k.size fun x h1 _ _ => k.block x h1 (by omega)
theorem TkQ.wide (h : TkQ w lo hi a n t S) (h0 : lo' ≤ lo) (h1 : hi ≤ hi') : TkQ w lo' hi' a n t S := fun hn => by
  obtain ⟨g, A, C, D, e, hP⟩ := h hn
  exact ⟨g, A, C, D, e, Nat.le_trans h0 hP.glo, hP.gd, Nat.le_trans hP.hi h1, hP.mon, hP.lt, hP.c, hP.fz, hP.f, hP.s⟩
theorem tkq_none (w : World) (lo hi : Nat) (a : Option Addr) (t : Tks) (S : Nat → Nat → Nat → Int) : TkQ w lo hi a 0 t S := fun h => absurd h (Nat.lt_irrefl _)
theorem choose_fr {w : World} {n : Nat} {QA : Nat → Option Addr} {qm : Nat → Nat} {I : Nat → Nat → Int} {N : Nat → Nat → Nat} {S : Nat → Nat → Nat → Int} (h : ∀ i, i < n → ∃ A C, FrF w (QA i) (qm i) (I i) A (N i) C (S i)) :
    ∃ (AA : Nat → Nat → Option Addr) (CC : Nat → Nat → Nat), ∀ i, i < n → FrF w (QA i) (qm i) (I i) (AA i) (N i) (CC i) (S i) := by
  have h2 : ∀ i, ∃ AC : (Nat → Option Addr) × (Nat → Nat), i < n → FrF w (QA i) (qm i) (I i) AC.1 (N i) AC.2 (S i) := fun i => by
    by_cases hi : i < n
    · obtain ⟨A, C, hF⟩ := h i hi
      exact ⟨(A, C), fun _ => hF⟩
    · exact ⟨(fun _ => none, fun _ => 0), fun k => absurd k hi⟩
  exact ⟨fun i => (Classical.choose (h2 i)).1, fun i => (Classical.choose (h2 i)).2, fun i hi => Classical.choose_spec (h2 i) hi⟩
theorem TkP.tf (h : TkP w lo hi g n t S QA QC D) : ∃ AA CC, TkF w (some ⟨g, 0, none⟩) n { t with qa := QA, qc := QC, A := AA, C := CC } S := by
  obtain ⟨AA, CC, hF⟩ := choose_fr fun i hi => (h.f i hi).ff
  exact ⟨AA, CC, ⟨fun _ => ⟨g, 0, rfl, h.lt, fun i hi => by simp only [Nat.zero_add]; exact h.c i hi⟩, fun i hi => (hF i hi).h⟩, fun i hi => (hF i hi).y, fun i hi => (hF i hi).s, h.s⟩
theorem TkQ.tf (h : TkQ w lo hi a n t S) : ∃ QA QC AA CC, TkF w a n { t with qa := QA, qc := QC, A := AA, C := CC } S := by
  by_cases h0 : 0 < n
  · obtain ⟨g, QA, QC, D, rfl, hP⟩ := h h0
    obtain ⟨AA, CC, hF⟩ := hP.tf
    exact ⟨QA, QC, AA, CC, hF⟩
  · exact ⟨t.qa, t.qc, t.A, t.C, ⟨fun h => absurd h h0, fun i hi => absurd hi (by omega)⟩, fun i hi => absurd hi (by omega), fun i hi => absurd hi (by omega), fun i hi => absurd hi (by omega)⟩
end
end
end Go.Proofs.Ytldagjgpapnfpaa
