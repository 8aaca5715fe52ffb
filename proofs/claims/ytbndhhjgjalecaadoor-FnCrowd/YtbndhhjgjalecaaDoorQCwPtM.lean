/- A table of bools in memory: a row of rows, each a block of its own. -/
import Derived.Test.YtbndhhjgjalecaaDoorQCwRows
import Derived.Test.YtbndhhjgjalecaaDoorQCwPnM
import Derived.Test.YtbndhhjgjalecaaDoorQCwBs
import Derived.Test.YtbndhhjgjalecaaDoorQClNxB
namespace Go.Proofs.YtbndhhjgjalecaaDoor
open Go.RowKit

/-- the row of block tb, its rows lie in the blocks behind it -/
structure Tb (w : World) (tb N n : Nat) (D : Nat → Nat → Bool) : Prop where
  lt : tb + N < w.heap.size
  row : ∀ k, k < N → w.cell? ⟨tb, k, none⟩ = some (.slice (some ⟨tb + 1 + k, 0, none⟩) n n)
  c : ∀ k i, k < N → i < n → w.cell? ⟨tb + 1 + k, i, none⟩ = some (.bool (D k i))
  fz : ∀ k i, k < N → w.frozen? ⟨tb + 1 + k, i, none⟩ = false
/-- one of the table's cells is set -/
def tset (D : Nat → Nat → Bool) (k i : Nat) (x : Bool) : Nat → Nat → Bool := fun k' i' => if k' = k ∧ i' = i then x else D k' i'
section
variable {w w' : World} {tb N n : Nat} {D D' : Nat → Nat → Bool}
theorem Tb.on (h : Tb w tb N n D) (k : Below w.heap.size w w') : Tb w' tb N n D :=
  ⟨Nat.lt_of_lt_of_le h.lt k.size, fun j hj => (k.cell (p := ⟨tb, j, none⟩) (by have := h.lt; show tb < _; omega)).trans (h.row j hj),
    fun j i hj hi => (k.cell (p := ⟨tb + 1 + j, i, none⟩) (by have := h.lt; show tb + 1 + j < _; omega)).trans (h.c j i hj hi),
    fun j i hj => (k.frozen (p := ⟨tb + 1 + j, i, none⟩) (by have := h.lt; show tb + 1 + j < _; omega)).trans (h.fz j i hj)⟩
theorem Tb.congr (h : Tb w tb N n D) (e : ∀ k i, k < N → i < n → D k i = D' k i) : Tb w tb N n D' :=
  ⟨h.lt, h.row, fun k i hk hi => by rw [← e k i hk hi]; exact h.c k i hk hi, h.fz⟩
theorem Tb.set (h : Tb w tb N n D) {k i : Nat} (hk : k < N) (hi : i < n) (x : Bool) : Tb (w.setCell ⟨tb + 1 + k, i, none⟩ (.bool x)) tb N n (tset D k i x) := by
  have hO : Only (tb + 1 + k) w (w.setCell ⟨tb + 1 + k, i, none⟩ (.bool x)) := (Only.refl _ w).set i _
  refine ⟨by simpa using h.lt, fun j hj => (cell_same (hO.block tb (by omega)) j).trans (h.row j hj), fun j u hj hu => ?_, fun j u hj => ?_⟩
  · by_cases e : j = k
    · subst e
      by_cases e2 : u = i
      · subst e2
        simp only [tset, and_self, if_true]
        exact World.cell?_setCell_same _ _ _ (h.c j u hj hu)
      · rw [tset, if_neg (by omega)]
        exact (World.cell?_setCell_other _ _ _ _ (by simp <;> omega)).trans (h.c j u hj hu)
    · rw [tset, if_neg (by omega)]
      exact (cell_same (hO.block (tb + 1 + j) (by omega)) u).trans (h.c j u hj hu)
  · simpa using h.fz j u hj
end
theorem infoBl : (Tryd.prog.info? 4).map (fun i => (i.zero, i.size, i.bytes)) = some (some (.bool false), 1, 1) := by kernel_rfl
theorem infoBs : (Tryd.prog.info? 110).map (fun i => (i.zero, i.size, i.bytes)) = some (some (.slice none 0 0), 1, 24) := by kernel_rfl
/-- the table is made: k rows stand -/
structure Tm (w : World) (tb N n k : Nat) : Prop where
  sz : w.heap.size = tb + 1 + k
  rows : w.rowIs tb 110 N (fun i => if i < k then .slice (some ⟨tb + 1 + i, 0, none⟩) n n else .slice none 0 0)
  c : ∀ j i, j < k → i < n → w.cell? ⟨tb + 1 + j, i, none⟩ = some (.bool false)
  fz : ∀ j i, j < k → w.frozen? ⟨tb + 1 + j, i, none⟩ = false
theorem tm_start (w : World) (N n : Nat) : Tm (w.alloc (.cells (madeCells #[.slice none 0 0] N) 110)) w.heap.size N n 0 :=
  ⟨by simp, (World.rowIs_made w (.slice none 0 0) N 110).congr fun i _ => by simp, fun j _ hj => absurd hj (Nat.not_lt_zero _), fun j _ hj => absurd hj (Nat.not_lt_zero _)⟩
theorem Tm.step {w : World} {tb N n k : Nat} (h : Tm w tb N n k) : Tm ((w.alloc (.cells (madeCells #[.bool false] n) 4)).setCell ⟨tb, k, none⟩ (.slice (some ⟨w.heap.size, 0, none⟩) n n)) tb N n (k + 1) := by
  have hr0 : (w.alloc (.cells (madeCells #[.bool false] n) 4)).rowIs w.heap.size 4 n (fun _ => .bool false) := World.rowIs_made w (.bool false) n 4
  have hb : Below w.heap.size w (w.alloc (.cells (madeCells #[.bool false] n) 4)) := (Below.refl _ _).alloc (Nat.le_refl _) _
  have hlt : tb < w.heap.size := by have := h.sz; omega
  have hr1 := rowIs_below h.rows hb hlt
  have hs1 : (w.alloc (.cells (madeCells #[.bool false] n) 4)).heap.size = w.heap.size + 1 := by simp
  generalize w.alloc (.cells (madeCells #[.bool false] n) 4) = w1 at *
  have hO : Only tb w1 (w1.setCell ⟨tb, k, none⟩ (.slice (some ⟨w.heap.size, 0, none⟩) n n)) := (Only.refl _ _).set k _
  have hz := h.sz
  refine ⟨by rw [hO.size, hs1]; omega, (hr1.set k _).congr fun i _ => ?_, fun j i hj hi => (cell_same (hO.block (tb + 1 + j) (by omega)) i).trans ?_, fun j i hj => (frozen_same (hO.block (tb + 1 + j) (by omega)) i).trans ?_⟩
  · by_cases e : i = k
    · subst e
      simp [hz]
    · by_cases e2 : i < k
      · simp [e, e2, Nat.lt_succ_of_lt e2]
      · have : ¬ i < k + 1 := by omega
        simp [e, e2, this]
  · by_cases e : j = k
    · subst e; rw [← hz]; exact hr0.cell hi
    · exact (hb.cell (p := ⟨tb + 1 + j, i, none⟩) (by show tb + 1 + j < _; omega)).trans (h.c j i (by omega) hi)
  · by_cases e : j = k
    · subst e; rw [← hz]; exact hr0.frozen i
    · exact (hb.frozen (p := ⟨tb + 1 + j, i, none⟩) (by show tb + 1 + j < _; omega)).trans (h.fz j i (by omega))
theorem Tm.done {w : World} {tb N n : Nat} (h : Tm w tb N n N) : Tb w tb N n (fun _ _ => false) :=
  ⟨by have := h.sz; omega, fun k hk => by rw [h.rows.cell hk, if_pos hk], fun k i hk hi => h.c k i hk hi, fun k i hk => h.fz k i hk⟩
end Go.Proofs.YtbndhhjgjalecaaDoor

/- The table that finds a path: what it holds at each step. Numbers alone. -/
namespace Go.Proofs.YtbndhhjgjalecaaDoor

section
variable (W : Int) (n : Nat) (f : Nat → Int) (R : Nat → Nat → Int) (J : Nat) (t : Int) (e : Nat)
/-- what the table holds where it is filled -/
def tv (k c : Nat) : Bool := frB n f (c : Int) && cnB W n f R J t (e - k) k (c : Int)
/-- the rows from m on are filled -/
def D4 (m k c : Nat) : Bool := decide (m ≤ k) && tv W n f R J t e k c
/-- and the first p of row M -/
def D5 (M p k c : Nat) : Bool := if k = M then decide (c < p) && tv W n f R J t e M c else D4 W n f R J t e (M + 1) k c
/-- by the first j cells around -/
def an (M p : Nat) (G : List Int) (j : Nat) : Bool := (G.take j).any fun q => nhB R (M + 1) (p : Int) q J && cnB W n f R J t (e - (M + 1)) (M + 1) q
end
section
variable {W : Int} {n : Nat} {f : Nat → Int} {R : Nat → Nat → Int} {J : Nat} {e : Nat}
theorem d4_top {E : Nat} (hE : E < n) (h0 : f E = 0) : ∀ k c, k < e + 1 → c < n → tset (fun _ _ => false) e E true k c = D4 W n f R J (E : Int) e e k c := fun k c hk _ => by
  unfold tset D4 tv
  by_cases hke : k = e
  · subst hke
    by_cases hc : c = E
    · subst hc
      have := frB_mk (n := n) (f := f) (p := (c : Int)) ⟨by omega, by omega, by simpa using h0⟩
      simp [this, cnB]
    · have : ((c : Int) == (E : Int)) = false := by simp; omega
      simp [hc, cnB, this]
  · have : ¬ e ≤ k := by omega
    simp [hke, this]
theorem d5_zero {t : Int} {M : Nat} (k c : Nat) : D4 W n f R J t e (M + 1) k c = D5 W n f R J t e M 0 k c := by
  unfold D5
  by_cases h : k = M
  · subst h; simp [D4]; omega
  · rw [if_neg h]
theorem d5_all {t : Int} {M : Nat} (k c : Nat) (hc : c < n) : D5 W n f R J t e M n k c = D4 W n f R J t e M k c := by
  unfold D5
  by_cases h : k = M
  · subst h; simp [D4, hc]
  · rw [if_neg h]
    unfold D4
    by_cases h2 : M + 1 ≤ k
    · simp [h2, show M ≤ k by omega]
    · simp [h2, show ¬ M ≤ k by omega]
theorem d5_not {t : Int} {M p : Nat} (h : frB n f (p : Int) = false) (k c : Nat) : D5 W n f R J t e M p k c = D5 W n f R J t e M (p + 1) k c := by
  unfold D5
  by_cases hk : k = M
  · rw [if_pos hk, if_pos hk]
    by_cases hc : c = p
    · subst hc; simp [tv, h]
    · by_cases h2 : c < p
      · simp [h2, Nat.lt_succ_of_lt h2]
      · simp [h2, show ¬ c < p + 1 by omega]
  · rw [if_neg hk, if_neg hk]
theorem d5_start {t : Int} {M p : Nat} {G : List Int} (k c : Nat) : D5 W n f R J t e M p k c = tset (D5 W n f R J t e M p) M p (an W n f R J t e M p G 0) k c := by
  unfold tset
  by_cases h : k = M ∧ c = p
  · obtain ⟨rfl, rfl⟩ := h
    simp [D5, an]
  · rw [if_neg h]
theorem d5_yes {t : Int} {M p : Nat} (hM : M < e) (h : frB n f (p : Int) = true) (k c : Nat) : tset (D5 W n f R J t e M p) M p (an W n f R J t e M p (nbL W n f p) (nbL W n f p).length) k c = D5 W n f R J t e M (p + 1) k c := by
  unfold tset D5
  by_cases hk : k = M
  · subst hk
    by_cases hc : c = p
    · subst hc
      have : an W n f R J t e k c (nbL W n f c) (nbL W n f c).length = cnB W n f R J t (e - k) k (c : Int) := by
        rw [show e - k = (e - (k + 1)) + 1 by omega]
        unfold an
        rw [List.take_length]
        simp only [cnB, Int.toNat_natCast]
      simp [this, tv, h]
    · simp only [hc, and_false, if_false, if_true]
      by_cases h2 : c < p
      · simp [h2, Nat.lt_succ_of_lt h2]
      · simp [h2, show ¬ c < p + 1 by omega]
  · simp [hk]
theorem an_succ {t : Int} {M p j : Nat} {G : List Int} (hj : j < G.length) {u : Int} (hu : gl G j = u) : an W n f R J t e M p G (j + 1) = (an W n f R J t e M p G j || (cnB W n f R J t (e - (M + 1)) (M + 1) u && nhB R (M + 1) (p : Int) u J)) := by
  have : G[j] = u := by
    rw [← hu]
    unfold gl
    simp [hj]
  unfold an
  rw [List.take_succ_eq_append_getElem hj, List.any_append, this]
  simp [Bool.and_comm]
theorem tset_self {D : Nat → Nat → Bool} {k i : Nat} {x : Bool} : tset D k i x k i = x := by simp [tset]
theorem tset_tset {D : Nat → Nat → Bool} {k i : Nat} {x y : Bool} (k' i' : Nat) : tset (tset D k i x) k i y k' i' = tset D k i y k' i' := by
  unfold tset
  split <;> rfl
theorem tset_next {t : Int} {M p : Nat} {x : Bool} {u : Nat} (h : frB n f (u : Int) = true) : tset (D5 W n f R J t e M p) M p x (M + 1) u = cnB W n f R J t (e - (M + 1)) (M + 1) (u : Int) := by
  simp [tset, D5, D4, tv, h]
theorem d4_zero {t : Int} {k c : Nat} (h : frB n f (c : Int) = true) : D4 W n f R J t e 0 k c = cnB W n f R J t (e - k) k (c : Int) := by simp [D4, tv, h]
/-- how the path goes on -/
theorem Gd.snoc {s t : Int} {P : Nat → Int} {K : Nat} {u : Int} (h : Gd W n f R J s t e P K) (hf : (nbL W n f (P K).toNat).find? (fun q => cnB W n f R J t (e - (K + 1)) (K + 1) q && nhB R (K + 1) (P K) q J) = some u) : Gd W n f R J s t e (put P (K + 1) u) (K + 1) := by
  refine ⟨by simp [put, h.beg], fun k hk => ?_⟩
  have e0 : put P (K + 1) u k = P k := by unfold put; rw [if_neg (by omega)]
  rw [e0]
  by_cases hkK : k = K
  · subst hkK
    rw [hf]
    simp [put]
  · have e1 : put P (K + 1) u (k + 1) = P (k + 1) := by unfold put; rw [if_neg (by omega)]
    rw [e1]
    exact h.step k (by omega)
theorem Gd.keep {s t : Int} {P Q : Nat → Int} {K : Nat} (h : Gd W n f R J s t e P K) (hq : ∀ k, k ≤ K → P k = Q k) : Gd W n f R J s t e Q K :=
  ⟨by rw [← hq 0 (Nat.zero_le _)]; exact h.beg, fun k hk => by rw [← hq k (by omega), ← hq (k + 1) (by omega)]; exact h.step k hk⟩
theorem Gd.inn {t : Int} {P : Nat → Int} {K S : Nat} (h : Gd W n f R J (S : Int) t e P K) (hs : sizedB W n = true) (hS : S < n) (h0 : f S = 0) : ∀ k, k ≤ K → ∃ p : Nat, P k = (p : Int) ∧ p < n ∧ f p = 0 := by
  intro k
  induction k with
  | zero => intro _; exact ⟨S, h.beg, hS, h0⟩
  | succ k ih =>
    intro hk
    obtain ⟨p, h1, h2, h3⟩ := ih (by omega)
    have := List.mem_of_find?_eq_some (h.step k (by omega))
    rw [h1, Int.toNat_natCast] at this
    obtain ⟨u, hu, hst⟩ := mem_nbL.1 this
    exact ⟨u, hu, hst.lt hs h2, hst.free hs h3⟩
theorem find_at {G : List Int} {g : Int → Bool} {j : Nat} {u : Int} (hj : j < G.length) (hu : gl G j = u) (hb : ∀ i, i < j → g (gl G i) = false) (hg : g u = true) : G.find? g = some u := by
  induction G generalizing j with
  | nil => simp at hj
  | cons x G ih =>
    cases j with
    | zero =>
      have : x = u := by simpa [gl] using hu
      subst this
      simp [hg]
    | succ j =>
      have h0 := hb 0 (by omega)
      have hx : g x = false := by simpa [gl] using h0
      rw [List.find?_cons, hx]
      exact ih (j := j) (by simpa using hj) (by simpa [gl] using hu) (fun i hi => by have := hb (i + 1) (by omega); simpa [gl] using this)
theorem find_not {G : List Int} {g : Int → Bool} (hb : ∀ i, i < G.length → g (gl G i) = false) : G.find? g = none := by
  rw [List.find?_eq_none]
  intro x hx
  obtain ⟨i, hi, hxi⟩ := List.mem_iff_getElem.1 hx
  have := hb i hi
  rw [← hxi]
  have e : gl G i = G[i] := by simp [gl, hi]
  rw [e] at this
  simp [this]
end
end Go.Proofs.YtbndhhjgjalecaaDoor
