/- Ways over cells by steps: what they cost at least, and how that is found. -/
import Derived.Test.YtfciecoigfnnhaaQWyKey
namespace Go.Proofs.Ytfciecoigfnnhaa
open Go.RowKit

/-- a way from a cell to another, so many straight and slant steps -/
inductive Wy (st : Nat → Nat → Int) (to : Nat) : Nat → Int → Int → Prop
  | nil : Wy st to to 0 0
  | str {i k : Nat} {a b : Int} : st i k = 1 → Wy st to k a b → Wy st to i (a + 1) b
  | sla {i k : Nat} {a b : Int} : st i k = 2 → Wy st to k a b → Wy st to i a (b + 1)
theorem Wy.pos {st : Nat → Nat → Int} {to i : Nat} {a b : Int} (h : Wy st to i a b) : 0 ≤ a ∧ 0 ≤ b := by
  induction h with
  | nil => omega
  | str _ _ ih => omega
  | sla _ _ ih => omega
/-- what ways cost at least -/
structure Dst (st : Nat → Nat → Int) (n to : Nat) (A B : Nat → Int) : Prop where
  real : ∀ i, i < n → 0 ≤ A i → Wy st to i (A i) (B i)
  least : ∀ i a b, i < n → Wy st to i a b → 0 ≤ A i ∧ ky (A i) (B i) ≤ ky a b
  bnd : ∀ i, i < n → 0 ≤ A i → 0 ≤ B i ∧ A i + B i ≤ 256
theorem Dst.uniq {st : Nat → Nat → Int} {n to : Nat} {A B A' B' : Nat → Int} (h : Dst st n to A B) (h' : Dst st n to A' B') {i : Nat} (hi : i < n) (h0 : 0 ≤ A i) : 0 ≤ A' i ∧ A i = A' i ∧ B i = B' i := by
  have w := h.real i hi h0
  obtain ⟨k0, k1⟩ := h'.least i _ _ hi w
  have w' := h'.real i hi k0
  obtain ⟨_, k2⟩ := h.least i _ _ hi w'
  have b := h.bnd i hi h0
  have b' := h'.bnd i hi k0
  have e := ky_inj (a := A i) (b := B i) (c := A' i) (d := B' i) (by omega) (by omega) (by omega)
  exact ⟨k0, e.1, e.2⟩
/-- how much a step costs -/
def wt (s : Int) : Int := if s = 1 then 408 else 577
theorem wt_pos (s : Int) : 408 ≤ wt s := by unfold wt; split <;> omega
def nxA (s a : Int) : Int := if s = 1 then a + 1 else a
def nxB (s b : Int) : Int := if s = 1 then b else b + 1
theorem ky_nx (s a b : Int) : ky (nxA s a) (nxB s b) = ky a b + wt s := by
  unfold ky nxA nxB wt
  split <;> omega
/-- how many of the first n are done -/
def cntD (D : Nat → Bool) : Nat → Nat
  | 0 => 0
  | k + 1 => cntD D k + if D k then 1 else 0
theorem cntD_le (D : Nat → Bool) (n : Nat) : cntD D n ≤ n := by
  induction n with
  | zero => simp [cntD]
  | succ n ih => unfold cntD; split <;> omega
def putD (D : Nat → Bool) (j : Nat) : Nat → Bool := fun i => if i = j then true else D i
theorem cntD_put {D : Nat → Bool} {j n : Nat} (h : D j = false) : cntD (putD D j) n = cntD D n + if j < n then 1 else 0 := by
  induction n with
  | zero => simp [cntD]
  | succ n ih =>
    unfold cntD
    rw [ih]
    by_cases e : n = j
    · subst e; simp [putD, h]
    · have e2 : putD D j n = D n := by simp [putD, e]
      rw [e2]
      by_cases e3 : j < n
      · have q1 : (if j < n then 1 else 0) = 1 := if_pos e3
        have q2 : (if j < n + 1 then 1 else 0) = 1 := if_pos (by omega)
        rw [q1, q2]; omega
      · have q1 : (if j < n then 1 else 0) = 0 := if_neg e3
        have q2 : (if j < n + 1 then 1 else 0) = 0 := if_neg (by omega)
        rw [q1, q2]; omega
theorem cntD_lt {D : Nat → Bool} {j n : Nat} (h : D j = false) (hj : j < n) : cntD D n < n := by
  have := cntD_put (n := n) h
  rw [if_pos hj] at this
  have := cntD_le (putD D j) n
  omega
/-- what stands while costs are found: some cells are done -/
structure Dj (st : Nat → Nat → Int) (n to : Nat) (A B : Nat → Int) (D : Nat → Bool) : Prop where
  src : A to = 0 ∧ B to = 0
  real : ∀ i, i < n → 0 ≤ A i → Wy st to i (A i) (B i)
  bnd : ∀ i, i < n → 0 ≤ A i → 0 ≤ B i ∧ A i + B i ≤ cntD D n
  neg : ∀ i, i < n → A i < 0 → A i = -1 ∧ B i = -1
  rel : ∀ u, u < n → D u = true → 0 ≤ A u ∧ ∀ k, k < n → st u k ≠ 0 → 0 ≤ A k ∧ ky (A k) (B k) ≤ ky (A u) (B u) + wt (st u k)
  ord : ∀ u v, u < n → v < n → D u = true → D v = false → 0 ≤ A v → ky (A u) (B u) ≤ ky (A v) (B v)
/-- where nothing is open the costs are the least ones -/
theorem Dj.done {st : Nat → Nat → Int} {n to : Nat} {A B : Nat → Int} {D : Nat → Bool} (h : Dj st n to A B D) (hn : n ≤ 256) (hto : to < n)
    (hsy : ∀ i k, st i k = st k i) (hlt : ∀ i k, st i k ≠ 0 → i < n ∧ k < n) (ho : ∀ i, i < n → 0 ≤ A i → D i = true) : Dst st n to A B where
  real := h.real
  bnd i hi h0 := by have := h.bnd i hi h0; have := cntD_le D n; omega
  least i a b hi hw := by
    clear hi
    suffices hs : i < n ∧ 0 ≤ A i ∧ ky (A i) (B i) ≤ ky a b from hs.2
    induction hw with
    | nil =>
      obtain ⟨e1, e2⟩ := h.src
      rw [e1, e2]
      exact ⟨hto, by omega, by unfold ky; omega⟩
    | @str i k a b hs _ ih =>
      obtain ⟨i1, i2, i3⟩ := ih
      have q := hlt i k (by omega)
      have r := (h.rel k i1 (ho k i1 i2)).2 i q.1 (by rw [hsy]; omega)
      rw [hsy k i, hs] at r
      refine ⟨q.1, r.1, ?_⟩
      have : wt 1 = 408 := rfl
      unfold ky at *
      omega
    | @sla i k a b hs _ ih =>
      obtain ⟨i1, i2, i3⟩ := ih
      have q := hlt i k (by omega)
      have r := (h.rel k i1 (ho k i1 i2)).2 i q.1 (by rw [hsy]; omega)
      rw [hsy k i, hs] at r
      refine ⟨q.1, r.1, ?_⟩
      have : wt 2 = 577 := rfl
      unfold ky at *
      omega
/-- what stands while the cells around one that has just been done are gone through: those of S are seen -/
structure Rx (st : Nat → Nat → Int) (n to : Nat) (A B : Nat → Int) (D : Nat → Bool) (u0 : Nat) (S : Nat → Prop) : Prop where
  src : A to = 0 ∧ B to = 0
  real : ∀ i, i < n → 0 ≤ A i → Wy st to i (A i) (B i)
  bnd : ∀ i, i < n → 0 ≤ A i → 0 ≤ B i ∧ A i + B i ≤ cntD D n
  bnd0 : A u0 + B u0 + 1 ≤ cntD D n
  neg : ∀ i, i < n → A i < 0 → A i = -1 ∧ B i = -1
  d0 : D u0 = true ∧ u0 < n
  rel : ∀ u, u < n → D u = true → 0 ≤ A u ∧ ∀ k, k < n → st u k ≠ 0 → (u = u0 → S k) → 0 ≤ A k ∧ ky (A k) (B k) ≤ ky (A u) (B u) + wt (st u k)
  ord : ∀ u v, u < n → v < n → D u = true → D v = false → 0 ≤ A v → ky (A u) (B u) ≤ ky (A v) (B v)
  top : ∀ u, u < n → D u = true → ky (A u) (B u) ≤ ky (A u0) (B u0)
/-- the cell that costs least of those that are open is done -/
theorem Dj.take {st : Nat → Nat → Int} {n to : Nat} {A B : Nat → Int} {D : Nat → Bool} (h : Dj st n to A B D) {u0 : Nat} (hu : u0 < n) (h0 : 0 ≤ A u0) (hd : D u0 = false)
    (hmin : ∀ i, i < n → 0 ≤ A i → D i = false → ky (A u0) (B u0) ≤ ky (A i) (B i)) : Rx st n to A B (putD D u0) u0 (fun _ => False) := by
  have hc : cntD (putD D u0) n = cntD D n + 1 := by rw [cntD_put hd, if_pos hu]
  have hp : ∀ i, i ≠ u0 → putD D u0 i = D i := fun i e => by simp [putD, e]
  have hq : putD D u0 u0 = true := by simp [putD]
  have hn0 : ∀ i, putD D u0 i = false → i ≠ u0 ∧ D i = false := fun i e => by
    by_cases e2 : i = u0
    · subst e2; rw [hq] at e; cases e
    · exact ⟨e2, by rw [hp i e2] at e; exact e⟩
  refine ⟨h.src, h.real, ?_, ?_, h.neg, ⟨hq, hu⟩, ?_, ?_, ?_⟩
  · intro i hi h1
    have := h.bnd i hi h1
    omega
  · have := h.bnd u0 hu h0
    omega
  · intro u hu' hd'
    by_cases e : u = u0
    · subst e
      exact ⟨h0, fun k _ _ hs => (hs rfl).elim⟩
    · rw [hp u e] at hd'
      have r := h.rel u hu' hd'
      exact ⟨r.1, fun k hk hs _ => r.2 k hk hs⟩
  · intro u v hu' hv hd' hv' h1
    obtain ⟨_, hv2⟩ := hn0 v hv'
    by_cases e : u = u0
    · subst e
      exact hmin v hv h1 hv2
    · rw [hp u e] at hd'
      exact h.ord u v hu' hv hd' hv2 h1
  · intro u hu' hd'
    by_cases e : u = u0
    · subst e; omega
    · rw [hp u e] at hd'
      exact h.ord u u0 hu' hu hd' hd h0
/-- a cell that is no step from it, or done, or costs no more already -/
theorem Rx.skip {st : Nat → Nat → Int} {n to : Nat} {A B : Nat → Int} {D : Nat → Bool} {u0 : Nat} {S : Nat → Prop} (h : Rx st n to A B D u0 S) {k : Nat}
    (hk : k < n → st u0 k ≠ 0 → 0 ≤ A k ∧ ky (A k) (B k) ≤ ky (A u0) (B u0) + wt (st u0 k)) : Rx st n to A B D u0 (fun i => S i ∨ i = k) := by
  refine ⟨h.src, h.real, h.bnd, h.bnd0, h.neg, h.d0, ?_, h.ord, h.top⟩
  intro u hu hd
  have r := h.rel u hu hd
  refine ⟨r.1, fun i hi hs hS => ?_⟩
  by_cases e : u = u0
  · rcases hS e with q | q
    · exact r.2 i hi hs (fun _ => q)
    · subst q; subst e; exact hk hi hs
  · exact r.2 i hi hs (fun q => (e q).elim)
theorem Rx.doneCell {st : Nat → Nat → Int} {n to : Nat} {A B : Nat → Int} {D : Nat → Bool} {u0 : Nat} {S : Nat → Prop} (h : Rx st n to A B D u0 S) {k : Nat} (hd : D k = true) : Rx st n to A B D u0 (fun i => S i ∨ i = k) :=
  h.skip fun hk _ => by
    have r := h.rel k hk hd
    have t := h.top k hk hd
    have := wt_pos (st u0 k)
    exact ⟨r.1, by omega⟩
/-- a cell that costs less by it -/
theorem rx_put {st : Nat → Nat → Int} {n to : Nat} {A B : Nat → Int} {D : Nat → Bool} {u0 : Nat} {S : Nat → Prop} (h : Rx st n to A B D u0 S) {k : Nat} (hk : k < n) (hd : D k = false)
    (hs : st u0 k = 1 ∨ st u0 k = 2) (hsy : ∀ i k, st i k = st k i)
    (hl : A k < 0 ∨ ky (nxA (st u0 k) (A u0)) (nxB (st u0 k) (B u0)) < ky (A k) (B k)) :
    Rx st n to (put A k (nxA (st u0 k) (A u0))) (put B k (nxB (st u0 k) (B u0))) D u0 (fun i => S i ∨ i = k) := by
  obtain ⟨du, hu⟩ := h.d0
  have a0 := (h.rel u0 hu du).1
  have hb0 := h.bnd u0 hu a0
  have hw := h.real u0 hu a0
  have hkey := ky_nx (st u0 k) (A u0) (B u0)
  have hwp := wt_pos (st u0 k)
  have hne : ∀ u, D u = true → u ≠ k := fun u e e2 => by subst e2; rw [hd] at e; cases e
  have hA : ∀ i, i ≠ k → put A k (nxA (st u0 k) (A u0)) i = A i := fun i e => by simp [put, e]
  have hB : ∀ i, i ≠ k → put B k (nxB (st u0 k) (B u0)) i = B i := fun i e => by simp [put, e]
  have hAk : put A k (nxA (st u0 k) (A u0)) k = nxA (st u0 k) (A u0) := by simp [put]
  have hBk : put B k (nxB (st u0 k) (B u0)) k = nxB (st u0 k) (B u0) := by simp [put]
  have hnA : A u0 ≤ nxA (st u0 k) (A u0) ∧ B u0 ≤ nxB (st u0 k) (B u0) ∧ nxA (st u0 k) (A u0) + nxB (st u0 k) (B u0) = A u0 + B u0 + 1 := by
    unfold nxA nxB; split <;> omega
  have hku : k ≠ to := by
    intro e
    subst e
    obtain ⟨e1, e2⟩ := h.src
    rcases hl with q | q
    · omega
    · rw [e1, e2] at q
      unfold ky at q
      omega
  have hle : ∀ i, i < n → 0 ≤ A i → 0 ≤ put A k (nxA (st u0 k) (A u0)) i ∧ ky (put A k (nxA (st u0 k) (A u0)) i) (put B k (nxB (st u0 k) (B u0)) i) ≤ ky (A i) (B i) := by
    intro i hi h1
    by_cases e : i = k
    · subst e
      rw [hAk, hBk]
      rcases hl with q | q
      · omega
      · omega
    · rw [hA i e, hB i e]; exact ⟨h1, by omega⟩
  refine ⟨?_, ?_, ?_, ?_, ?_, h.d0, ?_, ?_, ?_⟩
  · rw [hA to (Ne.symm hku), hB to (Ne.symm hku)]; exact h.src
  · intro i hi h1
    by_cases e : i = k
    · subst e
      rw [hAk, hBk]
      rcases hs with q | q
      · have := Wy.str (i := i) (by rw [hsy]; exact q) hw
        simpa [nxA, nxB, q] using this
      · have := Wy.sla (i := i) (by rw [hsy]; exact q) hw
        simpa [nxA, nxB, q] using this
    · rw [hA i e] at h1 ⊢
      rw [hB i e]
      exact h.real i hi h1
  · intro i hi h1
    have := h.bnd0
    by_cases e : i = k
    · subst e
      rw [hAk, hBk]
      omega
    · rw [hA i e] at h1 ⊢
      rw [hB i e]
      exact h.bnd i hi h1
  · rw [hA u0 (hne u0 du), hB u0 (hne u0 du)]; exact h.bnd0
  · intro i hi h1
    by_cases e : i = k
    · subst e
      rw [hAk] at h1
      omega
    · rw [hA i e] at h1 ⊢
      rw [hB i e]
      exact h.neg i hi h1
  · intro u hu' hd'
    have r := h.rel u hu' hd'
    rw [hA u (hne u hd'), hB u (hne u hd')]
    refine ⟨r.1, fun i hi hs' hS => ?_⟩
    by_cases e : u = u0
    · subst e
      rcases hS rfl with q | q
      · have r2 := r.2 i hi hs' (fun _ => q)
        have l := hle i hi r2.1
        exact ⟨l.1, by omega⟩
      · subst q
        rw [hAk, hBk]
        exact ⟨by omega, by omega⟩
    · have r2 := r.2 i hi hs' (fun q => (e q).elim)
      have l := hle i hi r2.1
      exact ⟨l.1, by omega⟩
  · intro u v hu' hv hd' hv' h1
    rw [hA u (hne u hd'), hB u (hne u hd')]
    by_cases e : v = k
    · subst e
      rw [hAk, hBk]
      have t := h.top u hu' hd'
      omega
    · rw [hA v e] at h1 ⊢
      rw [hB v e]
      exact h.ord u v hu' hv hd' hv' h1
  · intro u hu' hd'
    rw [hA u (hne u hd'), hB u (hne u hd'), hA u0 (hne u0 du), hB u0 (hne u0 du)]
    exact h.top u hu' hd'
/-- all cells around it are seen -/
theorem Rx.all {st : Nat → Nat → Int} {n to : Nat} {A B : Nat → Int} {D : Nat → Bool} {u0 : Nat} {S : Nat → Prop} (h : Rx st n to A B D u0 S) (hS : ∀ k, k < n → st u0 k ≠ 0 → S k) : Dj st n to A B D := by
  refine ⟨h.src, h.real, h.bnd, h.neg, ?_, h.ord⟩
  intro u hu hd
  have r := h.rel u hu hd
  exact ⟨r.1, fun k hk hs => r.2 k hk hs (fun e => by subst e; exact hS k hk hs)⟩
/-- at the beginning: the end alone is open -/
theorem Dj.start (st : Nat → Nat → Int) (n to : Nat) : Dj st n to (put (fun _ => -1) to 0) (put (fun _ => -1) to 0) (fun _ => false) := by
  have hk : ∀ i, 0 ≤ put (fun _ => -1) to 0 i → i = to := fun i h => by
    by_cases e : i = to
    · exact e
    · simp [put, e] at h
  refine ⟨by simp [put], ?_, ?_, ?_, ?_, ?_⟩
  · intro i _ h
    have e := hk i h
    subst e
    simp [put]
    exact Wy.nil
  · intro i _ h
    have e := hk i h
    subst e
    simp [put]
  · intro i _ h
    by_cases e : i = to
    · subst e; simp [put] at h
    · simp [put, e]
  · intro u _ h; cases h
  · intro u v _ _ h; cases h
end Go.Proofs.Ytfciecoigfnnhaa
