/- The least number of steps from one node to another: a search that goes round by round finds it. Numbers alone. -/
import Derived.Test.YtbndhhjgjalecabDoorQInCore
namespace Go.Proofs.YtbndhhjgjalecabDoor

/-- v is come to from s by k steps -/
inductive Rc (Nb : Nat → Nat → Prop) (s : Nat) : Nat → Nat → Prop
  | start : Rc Nb s 0 s
  | step {k u v : Nat} : Rc Nb s k u → Nb u v → Rc Nb s (k + 1) v
/-- the least number of steps, -1 where there is no way -/
def DistIs (Nb : Nat → Nat → Prop) (s t : Nat) (d : Int) : Prop := (d = -1 ∧ ∀ k, ¬ Rc Nb s k t) ∨ (∃ k : Nat, d = (k : Int) ∧ Rc Nb s k t ∧ ∀ j, Rc Nb s j t → k ≤ j)
theorem DistIs.uniq {Nb : Nat → Nat → Prop} {s t : Nat} {d d' : Int} (h : DistIs Nb s t d) (h' : DistIs Nb s t d') : d = d' := by
  rcases h with ⟨h1, h2⟩ | ⟨k, h1, h2, h3⟩ <;> rcases h' with ⟨g1, g2⟩ | ⟨j, g1, g2, g3⟩
  · rw [h1, g1]
  · exact absurd g2 (h2 j)
  · exact absurd h2 (g2 k)
  · have := h3 j g2
    have := g3 k h2
    omega
theorem DistIs.congr {Nb Nb' : Nat → Nat → Prop} {s t : Nat} {d : Int} (h : DistIs Nb s t d) (e : ∀ u v, Nb u v ↔ Nb' u v) : DistIs Nb' s t d := by
  have : Nb = Nb' := by funext u v; exact propext (e u v)
  rw [← this]; exact h
theorem DistIs.lo {Nb : Nat → Nat → Prop} {s t : Nat} {d : Int} (h : DistIs Nb s t d) : -1 ≤ d := by
  rcases h with ⟨h, _⟩ | ⟨k, h, _⟩ <;> omega

/-- how many of the first n are so -/
def cnF (F : Nat → Int) : Nat → Nat
  | 0 => 0
  | n + 1 => cnF F n + if 0 ≤ F n then 1 else 0
theorem cnF_le (F : Nat → Int) (n : Nat) : cnF F n ≤ n := by
  induction n with
  | zero => simp [cnF]
  | succ n ih => simp only [cnF]; split <;> omega
theorem cnF_put {F : Nat → Int} {u : Nat} {x : Int} (h : F u < 0) (hx : 0 ≤ x) (n : Nat) : cnF (put F u x) n = cnF F n + if u < n then 1 else 0 := by
  induction n with
  | zero => simp [cnF]
  | succ n ih =>
    simp only [cnF, ih]
    by_cases e : n = u
    · subst e
      rw [if_neg (Nat.lt_irrefl n), if_pos (Nat.lt_succ_self n)]
      simp only [put, if_true]
      rw [if_pos hx, if_neg (by omega)]
    · have e1 : put F u x n = F n := by simp [put, e]
      rw [e1]
      generalize (if 0 ≤ F n then 1 else 0) = q
      by_cases h2 : u < n
      · rw [if_pos h2, if_pos (show u < n + 1 by omega)]; omega
      · rw [if_neg h2, if_neg (show ¬ u < n + 1 by omega)]; omega
theorem cnF_none (n : Nat) : cnF (fun _ => -1) n = 0 := by
  induction n with
  | zero => rfl
  | succ n ih => simp [cnF, ih]

/-- the search: F: how far each node is, T: those that were found, in their order; the first i are done, of number i those neighbours that M names were looked at -/
structure Bf (N : Nat) (Nb : Nat → Nat → Prop) (s : Nat) (F T : Nat → Int) (L i : Nat) (M : Nat → Prop) : Prop where
  hs : s < N
  neg : ∀ v, v < N → F v = -1 ∨ 0 ≤ F v
  inT : ∀ j, j < L → 0 ≤ T j ∧ T j < (N : Int) ∧ 0 ≤ F (T j).toNat
  ofT : ∀ v, v < N → 0 ≤ F v → ∃ j, j < L ∧ T j = (v : Int)
  cnt : L = cnF F N
  way : ∀ v, v < N → 0 ≤ F v → Rc Nb s (F v).toNat v
  atS : F s = 0
  mono : ∀ j k, j ≤ k → k < L → F (T j).toNat ≤ F (T k).toNat
  near : ∀ k, k < L → i < L → F (T k).toNat ≤ F (T i).toNat + 1
  done : ∀ j, j < i → ∀ u, Nb (T j).toNat u → 0 ≤ F u ∧ F u ≤ F (T j).toNat + 1
  bnd : ∀ j, j < L → F (T j).toNat ≤ (j : Int)
  look : i < L → ∀ u, M u → Nb (T i).toNat u → 0 ≤ F u ∧ F u ≤ F (T i).toNat + 1
section
variable {N : Nat} {Nb : Nat → Nat → Prop} {s : Nat} {F T : Nat → Int} {L i : Nat} {M : Nat → Prop}
theorem bf_start (hs : s < N) (T : Nat → Int) (hT : T 0 = (s : Int)) : Bf N Nb s (put (fun _ => -1) s 0) T 1 0 (fun _ => False) := by
  have e0 : put (fun _ => -1) s 0 s = 0 := by simp [put]
  have hz : ∀ v, 0 ≤ put (fun _ => -1) s 0 v → v = s := fun v h => by
    by_cases e : v = s
    · exact e
    · simp [put, e] at h
  refine ⟨hs, fun v _ => ?_, fun j hj => ?_, fun v _ h => ⟨0, by omega, by rw [hT, hz v h]⟩, ?_, fun v _ h => ?_, e0, fun j k h1 h2 => ?_, fun k h1 _ => ?_, fun j hj => absurd hj (Nat.not_lt_zero _), fun j hj => ?_, fun _ u h => h.elim⟩
  · by_cases e : v = s
    · subst e; rw [e0]; omega
    · simp [put, e]
  · obtain rfl : j = 0 := by omega
    rw [hT]; simp only [Int.toNat_natCast]; rw [e0]; omega
  · rw [cnF_put (by omega) (Int.le_refl _), cnF_none, if_pos hs]
  · obtain rfl := hz v h
    rw [e0]; exact .start
  · obtain rfl : k = 0 := by omega
    obtain rfl : j = 0 := by omega
    exact Int.le_refl _
  · obtain rfl : k = 0 := by omega
    omega
  · obtain rfl : j = 0 := by omega
    rw [hT, Int.toNat_natCast, e0]; omega
theorem Bf.le (h : Bf N Nb s F T L i M) : L ≤ N := by rw [h.cnt]; exact cnF_le _ _
/-- a neighbour that was found before -/
theorem Bf.skip (h : Bf N Nb s F T L i M) (hi : i < L) {u : Nat} (hu : u < N) (h0 : 0 ≤ F u) : Bf N Nb s F T L i (fun x => M x ∨ x = u) := by
  refine ⟨h.hs, h.neg, h.inT, h.ofT, h.cnt, h.way, h.atS, h.mono, h.near, h.done, h.bnd, fun _ x hx hb => ?_⟩
  rcases hx with hx | rfl
  · exact h.look hi x hx hb
  · obtain ⟨j, hj, e⟩ := h.ofT x hu h0
    have := h.near j hj hi
    rw [e, Int.toNat_natCast] at this
    exact ⟨h0, this⟩
/-- a neighbour that is found now -/
theorem Bf.found (h : Bf N Nb s F T L i M) (hi : i < L) {u : Nat} (hu : u < N) (h0 : F u < 0) (hb : Nb (T i).toNat u) :
    Bf N Nb s (put F u (F (T i).toNat + 1)) (put T L (u : Int)) (L + 1) i (fun x => M x ∨ x = u) := by
  obtain ⟨t0, t1, t2⟩ := h.inT i hi
  have ne : ∀ j, j < L → (T j).toNat ≠ u := fun j hj e => by have := (h.inT j hj).2.2; rw [e] at this; omega
  have pF : ∀ j, j < L → put F u (F (T i).toNat + 1) (T j).toNat = F (T j).toNat := fun j hj => by simp [put, ne j hj]
  have pT : ∀ j, j < L → put T L (u : Int) j = T j := fun j hj => by simp [put, Nat.ne_of_lt hj]
  have pL : put T L (u : Int) L = (u : Int) := by simp [put]
  have pu : put F u (F (T i).toNat + 1) u = F (T i).toNat + 1 := by simp [put]
  have pF2 : ∀ x, 0 ≤ F x → put F u (F (T i).toNat + 1) x = F x := fun x hx => by
    have : x ≠ u := fun e => by subst e; omega
    simp [put, this]
  refine ⟨h.hs, fun v hv => ?_, fun j hj => ?_, fun v hv hF => ?_, ?_, fun v hv hF => ?_, ?_, fun j k hjk hk => ?_, fun k hk _ => ?_, fun j hj x hx => ?_, fun j hj => ?_, fun _ x hx hbx => ?_⟩
  · by_cases e : v = u
    · subst e; rw [pu]; omega
    · simp only [put, if_neg e]; exact h.neg v hv
  · by_cases e : j = L
    · subst e; rw [pL, Int.toNat_natCast, pu]; omega
    · rw [pT j (by omega), pF j (by omega)]; exact h.inT j (by omega)
  · by_cases e : v = u
    · subst e; exact ⟨L, by omega, pL⟩
    · simp only [put, if_neg e] at hF
      obtain ⟨j, hj, ej⟩ := h.ofT v hv hF
      exact ⟨j, by omega, by rw [pT j hj]; exact ej⟩
  · rw [cnF_put h0 (by omega), if_pos hu, ← h.cnt]
  · by_cases e : v = u
    · subst e
      rw [pu, show (F (T i).toNat + 1).toNat = (F (T i).toNat).toNat + 1 by omega]
      exact .step (h.way _ (by omega) t2) hb
    · simp only [put, if_neg e] at hF ⊢; exact h.way v hv hF
  · rw [pF2 s (by rw [h.atS]; omega)]; exact h.atS
  · by_cases e : k = L
    · subst e
      rw [pL, Int.toNat_natCast, pu]
      by_cases e2 : j = k
      · subst e2; rw [pL, Int.toNat_natCast, pu]; omega
      · rw [pT j (by omega), pF j (by omega)]; exact h.near j (by omega) hi
    · rw [pT k (by omega), pF k (by omega), pT j (by omega), pF j (by omega)]; exact h.mono j k hjk (by omega)
  · rw [pT i hi, pF i hi]
    by_cases e : k = L
    · subst e; rw [pL, Int.toNat_natCast, pu]; omega
    · rw [pT k (by omega), pF k (by omega)]; exact h.near k (by omega) hi
  · rw [pT j (by omega)] at hx ⊢
    rw [pF j (by omega)]
    have := h.done j hj x hx
    rw [pF2 x this.1]; exact this
  · by_cases e : j = L
    · subst e
      have := h.bnd i hi
      rw [pL, Int.toNat_natCast, pu]; omega
    · rw [pT j (by omega), pF j (by omega)]; exact h.bnd j (by omega)
  · rw [pT i hi] at hbx ⊢
    rw [pF i hi]
    rcases hx with hx | rfl
    · have := h.look hi x hx hbx
      rw [pF2 x this.1]; exact this
    · rw [pu]; omega
/-- all neighbours of number i were looked at -/
theorem Bf.next (h : Bf N Nb s F T L i M) (hi : i < L) (hM : ∀ u, Nb (T i).toNat u → M u) : Bf N Nb s F T L (i + 1) (fun _ => False) := by
  refine ⟨h.hs, h.neg, h.inT, h.ofT, h.cnt, h.way, h.atS, h.mono, fun k hk h1 => ?_, fun j hj u hu => ?_, h.bnd, fun _ u hu => hu.elim⟩
  · have := h.near k hk hi
    have := h.mono i (i + 1) (Nat.le_succ _) h1
    omega
  · by_cases e : j = i
    · subst e; exact h.look hi u (hM u hu) hu
    · exact h.done j (by omega) u hu
theorem Bf.weak {M' : Nat → Prop} (h : Bf N Nb s F T L i M) (hM : ∀ u, M' u → M u) : Bf N Nb s F T L i M' :=
  ⟨h.hs, h.neg, h.inT, h.ofT, h.cnt, h.way, h.atS, h.mono, h.near, h.done, h.bnd, fun hi u hu => h.look hi u (hM u hu)⟩
/-- the end -/
theorem Bf.dist (h : Bf N Nb s F T L L M) (hN : ∀ u v, u < N → Nb u v → v < N) {t : Nat} (ht : t < N) : DistIs Nb s t (F t) := by
  have key : ∀ k v, Rc Nb s k v → v < N ∧ 0 ≤ F v ∧ F v ≤ (k : Int) := by
    intro k v hr
    induction hr with
    | start => rw [h.atS]; exact ⟨h.hs, Int.le_refl _, Int.le_refl _⟩
    | @step k u v _ hb ih =>
      obtain ⟨h1, h2, h3⟩ := ih
      obtain ⟨j, hj, e⟩ := h.ofT u h1 h2
      have := h.done j hj v (by rw [e]; simpa using hb)
      rw [e, Int.toNat_natCast] at this
      refine ⟨hN u v h1 hb, this.1, ?_⟩
      have h4 := this.2
      have e2 : ((k + 1 : Nat) : Int) = (k : Int) + 1 := by omega
      omega
  rcases h.neg t ht with h0 | h0
  · exact .inl ⟨h0, fun k hk => by have := (key k t hk).2.1; omega⟩
  · exact .inr ⟨(F t).toNat, by omega, h.way t ht h0, fun j hj => by have := (key j t hj).2.2; omega⟩
end
end Go.Proofs.YtbndhhjgjalecabDoor
