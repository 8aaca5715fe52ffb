/- The map of places that are not done: a set of numbers. -/
import Derived.Test.YtfciecoigfnnhaaQClVal
import Derived.Maps.OwnSet
import Derived.Test.YtfciecoigfnnhaaQWyDist
import Derived.Test.YtfciecoigfnnhaaQWyHp
namespace Go.Proofs.Ytfciecoigfnnhaa
open Go.RowKit Go.Maps

theorem lawI : Keyed Try.prog 3 := int_keyed Try.underlying3
theorem zeroU (w : World) : (zeroValue 85).run Try.prog w = .ok (.agg #[]) w := by kernel_rfl
/-- block Mb is a map that has just the numbers of L -/
def LM (w : World) (Mb n : Nat) (L : Int → Bool) : Prop := ∃ D : DataW Unit, w.ownsMap Try.prog 3 (unitElem (H := Unit)) Mb n D ∧ ∀ x : Int, (Lit.int .i64 x).wf = true → Maps.has D (.int .i64 x) = L x
theorem wf_small {x : Int} (h0 : -1000000 ≤ x) (h1 : x ≤ 1000000) : (Lit.int .i64 x).wf = true := WalkArith.wf_i64 (by omega)
theorem LM.look {w : World} {Mb n : Nat} {L : Int → Bool} (h : LM w Mb n L) {x : Int} (hx : (Lit.int .i64 x).wf = true) :
    (Instr.lookup 78 (.map (some Mb)) (.int .i64 x) true).run Try.prog w = .ok (.tuple #[.agg #[], .bool (L x)]) w := by
  obtain ⟨D, hD, hL⟩ := h
  obtain ⟨v, ps, hr, hv⟩ := hD.look_ok lawI Try.underlying78 (zeroU w) unitElem_mk (keyOf_int_mk Try.underlying3 hx)
  rw [hr, (unitElem_inv hv).1, hL x hx]
theorem LM.drop {w : World} {Mb n : Nat} {L : Int → Bool} (h : LM w Mb n L) {x : Int} (hx : (Lit.int .i64 x).wf = true) (ty : TypeId) :
    ∃ w', (Builtin.delete_ #[78, 3] ty #[.map (some Mb), .int .i64 x]).run Try.prog w = .ok (.tuple #[]) w' ∧ LM w' Mb n (fun y => L y && decide (y ≠ x)) ∧ w.mapTurned w' Mb := by
  obtain ⟨D, hD, hL⟩ := h
  obtain ⟨w', hr, hD', ht⟩ := hD.drop lawI Try.underlying78 (keyOf_int_mk Try.underlying3 hx) ty
  refine ⟨w', hr, ⟨_, hD', fun y hy => ?_⟩, ht⟩
  by_cases e : y = x
  · subst e; rw [has_del_same]; simp
  · rw [has_del_other (by intro q; injection q with _ q; exact e q), hL y hy]; simp [e]
theorem LM.store {w : World} {Mb n : Nat} {L : Int → Bool} (h : LM w Mb n L) (hn : n ≤ 1000000) {x : Int} (hx : (Lit.int .i64 x).wf = true) :
    ∃ w', (Instr.mapUpdate 78 (.map (some Mb)) (.int .i64 x) (.agg #[])).run Try.prog w = .ok () w' ∧ LM w' Mb (n + 1) (fun y => L y || decide (y = x)) ∧ w.mapTurned w' Mb := by
  obtain ⟨D, hD, hL⟩ := h
  obtain ⟨w', hr, hD', ht⟩ := hD.store lawI Try.underlying78 (by unfold maxLen; omega) (keyOf_int_mk Try.underlying3 hx) unitElem_mk
  refine ⟨w', hr, ⟨_, hD', fun y hy => ?_⟩, ht⟩
  by_cases e : y = x
  · subst e; rw [has_put_same (k := .int .i64 y) hD.isMap (show WideAt.IsKeyLit (.int .i64 y) from trivial)]; simp
  · rw [has_put_other (by intro q; injection q with _ q; exact e q), hL y hy]; simp [e]
theorem lm_made (w : World) : LM (w.alloc (.map #[] 0)) w.heap.size 0 (fun _ => false) := ⟨_, World.ownsMap_made w Try.prog 3 unitElem, fun _ _ => rfl⟩
theorem LM.heap {w w' : World} {Mb n : Nat} {L : Int → Bool} (h : LM w Mb n L) (e : w'.heap[Mb]? = w.heap[Mb]?) : LM w' Mb n L := by
  obtain ⟨D, ⟨es, clock, hb, r⟩, hL⟩ := h
  exact ⟨D, ⟨es, clock, e.trans hb, r⟩, hL⟩
theorem LM.lt {w : World} {Mb n : Nat} {L : Int → Bool} (h : LM w Mb n L) : Mb < w.heap.size := by
  obtain ⟨D, hD, _⟩ := h
  exact hD.lt
theorem LM.congr {w : World} {Mb n : Nat} {L L' : Int → Bool} (h : LM w Mb n L) (e : ∀ x, L x = L' x) : LM w Mb n L' := by
  have : L = L' := funext e
  rw [← this]; exact h
theorem LM.mono {w : World} {Mb n n' : Nat} {L : Int → Bool} (h : LM w Mb n L) (hn : n ≤ n') : LM w Mb n' L := by
  obtain ⟨D, hD, hL⟩ := h
  exact ⟨D, hD.mono hn, hL⟩
end Go.Proofs.Ytfciecoigfnnhaa

/- The search with a heap of openings: which costs it has found. -/
namespace Go.Proofs.Ytfciecoigfnnhaa
open Go.RowKit

/-- the openings and the costs of places that are not done -/
structure Op (n : Nat) (A B : Nat → Int) (D : Nat → Bool) (m : Nat) (E : Nat → Og) : Prop where
  up : ∀ i : Nat, i < n → D i = false → 0 ≤ A i → MemO m E ⟨(i : Int), A i, B i⟩
  lo : ∀ y, MemO m E y → ∃ i : Nat, i < n ∧ y.p = (i : Int) ∧ (D i = false → 0 ≤ A i ∧ ky (A i) (B i) ≤ ko y)
theorem op_start (n tt : Nat) (ht : tt < n) (E : Nat → Og) (hE : E 0 = ⟨(tt : Int), 0, 0⟩) : Op n (put (fun _ => -1) tt 0) (put (fun _ => -1) tt 0) (fun _ => false) 1 E := by
  refine ⟨fun i _ _ h0 => ?_, ?_⟩
  · by_cases e : i = tt
    · subst e; exact ⟨0, by omega, by rw [hE]; simp [put]⟩
    · simp [put, e] at h0
  · rintro y ⟨k, hk, e⟩
    have hk0 : k = 0 := by omega
    subst hk0
    rw [hE] at e
    subst e
    exact ⟨tt, ht, rfl, fun _ => ⟨by simp [put], by simp [put, ko, ky]⟩⟩
/-- the first opening's place is done already -/
theorem Op.skip {n : Nat} {A B : Nat → Int} {D : Nat → Bool} {m m' : Nat} {E E' : Nat → Og} (h : Op n A B D m E) {i : Nat} {y0 : Og} (hp : y0.p = (i : Int)) (hd : D i = true) (h1 : ∀ y, MemO m' E' y → MemO m E y) (h2 : ∀ y, MemO m E y → y = y0 ∨ MemO m' E' y) : Op n A B D m' E' := by
  refine ⟨fun j hj hdj h0 => ?_, fun y hy => h.lo y (h1 y hy)⟩
  rcases h2 _ (h.up j hj hdj h0) with e | e
  · have : (j : Int) = (i : Int) := by rw [← hp, ← e]
    have : j = i := by omega
    subst this
    rw [hd] at hdj
    cases hdj
  · exact e
/-- the first opening is the cheapest of all places that are not done -/
theorem op_take {st : Nat → Nat → Int} {n tt : Nat} {A B : Nat → Int} {D : Nat → Bool} {m m' : Nat} {E E' : Nat → Og} (hD : Dj st n tt A B D) (hn : n ≤ 256) (h : Op n A B D m E) {i : Nat} {y0 : Og} (hi : i < n) (hp : y0.p = (i : Int)) (hd : D i = false) (hm : MemO m E y0) (hmin : ∀ y, MemO m E y → ko y0 ≤ ko y) (hb : BdO y0)
    (h1 : ∀ y, MemO m' E' y → MemO m E y) (h2 : ∀ y, MemO m E y → y = y0 ∨ MemO m' E' y) :
    0 ≤ A i ∧ y0.a = A i ∧ y0.b = B i ∧ Rx st n tt A B (putD D i) i (fun _ => False) ∧ Op n A B (putD D i) m' E' := by
  obtain ⟨i', hi', hp', hl⟩ := h.lo y0 hm
  have : i' = i := by omega
  subst this
  obtain ⟨a0, l1⟩ := hl hd
  have l2 := hmin _ (h.up i' hi hd a0)
  have bn := hD.bnd i' hi a0
  have cn := cntD_le D n
  obtain ⟨b1, b2, b3, b4⟩ := hb
  have e := ky_inj (a := y0.a) (b := y0.b) (c := A i') (d := B i') (by omega) (by omega) (by unfold ko at l1 l2; simp only at l2; omega)
  have hne : ∀ j, putD D i' j = false → j ≠ i' ∧ D j = false := fun j q => by
    by_cases e2 : j = i'
    · subst e2; simp [putD] at q
    · exact ⟨e2, by simpa [putD, e2] using q⟩
  refine ⟨a0, e.1, e.2, hD.take hi a0 hd (fun j hj h0 hdj => ?_), fun j hj hdj h0 => ?_, fun y hy => ?_⟩
  · have := hmin _ (h.up j hj hdj h0)
    unfold ko at this
    rw [e.1, e.2] at this
    exact this
  · obtain ⟨n1, n2⟩ := hne j hdj
    rcases h2 _ (h.up j hj n2 h0) with q | q
    · have : (j : Int) = (i' : Int) := by rw [← hp, ← q]
      omega
    · exact q
  · obtain ⟨j, hj, hpj, hl⟩ := h.lo y (h1 y hy)
    exact ⟨j, hj, hpj, fun q => hl (hne j q).2⟩
theorem Rx.weak {st : Nat → Nat → Int} {n tt : Nat} {A B : Nat → Int} {D : Nat → Bool} {u0 : Nat} {S S' : Nat → Prop} (h : Rx st n tt A B D u0 S) (hS : ∀ k, S' k → S k) : Rx st n tt A B D u0 S' :=
  ⟨h.src, h.real, h.bnd, h.bnd0, h.neg, h.d0, fun u hu hd => ⟨(h.rel u hu hd).1, fun k hk hs q => (h.rel u hu hd).2 k hk hs (fun e => hS k (q e))⟩, h.ord, h.top⟩
/-- a place that is a step from the one that has been done is opened -/
theorem op_put {st : Nat → Nat → Int} {n tt : Nat} {A B : Nat → Int} {D : Nat → Bool} {m m' : Nat} {E E' : Nat → Og} {u0 k : Nat} {S : Nat → Prop} (hR : Rx st n tt A B D u0 S) (h : Op n A B D m E) (hk : k < n) (hs : st u0 k = 1 ∨ st u0 k = 2) (hsy : ∀ i k, st i k = st k i)
    (hE : ∀ y, MemO m' E' y ↔ MemO m E y ∨ y = ⟨(k : Int), nxA (st u0 k) (A u0), nxB (st u0 k) (B u0)⟩) :
    ∃ A' B', Rx st n tt A' B' D u0 (fun i => S i ∨ i = k) ∧ Op n A' B' D m' E' ∧ (∀ i, D i = true → A' i = A i ∧ B' i = B i) := by
  have hw := wt_pos (st u0 k)
  have hkey := ky_nx (st u0 k) (A u0) (B u0)
  obtain ⟨du, hu⟩ := hR.d0
  have a0 := (hR.rel u0 hu du).1
  have b0 := hR.bnd u0 hu a0
  have hup : ∀ (A' B' : Nat → Int) (i : Nat), MemO m E ⟨(i : Int), A' i, B' i⟩ → MemO m' E' ⟨(i : Int), A' i, B' i⟩ := fun A' B' i q => (hE _).2 (.inl q)
  cases hd : D k with
  | true =>
    refine ⟨A, B, hR.doneCell hd, ⟨fun i hi hdi h0 => (hE _).2 (.inl (h.up i hi hdi h0)), fun y hy => ?_⟩, fun _ _ => ⟨rfl, rfl⟩⟩
    rcases (hE y).1 hy with q | q
    · exact h.lo y q
    · subst q
      exact ⟨k, hk, rfl, fun e => by rw [hd] at e; cases e⟩
  | false =>
    by_cases hl : A k < 0 ∨ ky (nxA (st u0 k) (A u0)) (nxB (st u0 k) (B u0)) < ky (A k) (B k)
    · have hn0 : 0 ≤ nxA (st u0 k) (A u0) := by unfold nxA; split <;> omega
      refine ⟨_, _, rx_put hR hk hd hs hsy hl, ⟨fun i hi hdi h0 => ?_, fun y hy => ?_⟩, fun i q => ?_⟩
      · by_cases e : i = k
        · subst e
          exact (hE _).2 (.inr (by simp [put]))
        · simp only [put, e, if_false] at h0 ⊢
          exact (hE _).2 (.inl (h.up i hi hdi h0))
      · rcases (hE y).1 hy with q | q
        · obtain ⟨i, hi, hp, hl2⟩ := h.lo y q
          refine ⟨i, hi, hp, fun hdi => ?_⟩
          have l3 := hl2 hdi
          by_cases e : i = k
          · subst e
            simp only [put, if_true]
            rcases hl with q2 | q2
            · omega
            · exact ⟨hn0, by omega⟩
          · simp only [put, e, if_false]
            exact l3
        · subst q
          exact ⟨k, hk, rfl, fun _ => by simp only [put, if_true, ko]; exact ⟨hn0, Int.le_refl _⟩⟩
      · have e : i ≠ k := by intro e; subst e; rw [hd] at q; cases q
        simp [put, e]
    · have hl1 : 0 ≤ A k ∧ ky (A k) (B k) ≤ ky (nxA (st u0 k) (A u0)) (nxB (st u0 k) (B u0)) := by omega
      refine ⟨A, B, hR.skip (fun _ _ => ⟨hl1.1, by omega⟩), ⟨fun i hi hdi h0 => (hE _).2 (.inl (h.up i hi hdi h0)), fun y hy => ?_⟩, fun _ _ => ⟨rfl, rfl⟩⟩
      rcases (hE y).1 hy with q | q
      · exact h.lo y q
      · subst q
        exact ⟨k, hk, rfl, fun _ => ⟨hl1.1, hl1.2⟩⟩
/-- where no opening is left all is found -/
theorem op_end {st : Nat → Nat → Int} {n tt : Nat} {A B : Nat → Int} {D : Nat → Bool} {E : Nat → Og} (hD : Dj st n tt A B D) (h : Op n A B D 0 E) (hn : n ≤ 256) (ht : tt < n) (hsy : ∀ i k, st i k = st k i) (hlt : ∀ i k, st i k ≠ 0 → i < n ∧ k < n) :
    Dst st n tt A B ∧ ∀ i, i < n → (D i = true ↔ 0 ≤ A i) := by
  have ho : ∀ i, i < n → 0 ≤ A i → D i = true := fun i hi h0 => by
    cases hd : D i with
    | true => rfl
    | false =>
      obtain ⟨k, hk, _⟩ := h.up i hi hd h0
      omega
  exact ⟨hD.done hn ht hsy hlt ho, fun i hi => ⟨fun q => (hD.rel i hi q).1, ho i hi⟩⟩
end Go.Proofs.Ytfciecoigfnnhaa
