/- The path that is read off the table. Numbers alone. -/
import Derived.Test.YtbndhhjgjalecaaDoorQCwLnI
namespace Go.Proofs.YtbndhhjgjalecaaDoor

theorem find_congr {l : List Int} {p p' : Int → Bool} (h : ∀ q ∈ l, p q = p' q) : l.find? p = l.find? p' := by
  induction l with
  | nil => rfl
  | cons x l ih =>
    rw [List.find?_cons, List.find?_cons, h x (by simp), ih fun q hq => h q (by simp [hq])]
/-- the path as far as tick k -/
structure Pth (W : Int) (n : Nat) (f : Nat → Int) (R : Nat → Nat → Int) (J : Nat) (s t : Int) (T : Nat) (D : Nat → Nat → Int) (e : Nat) (P : Nat → Int) (k : Nat) : Prop where
  gd : Gd W n f R J s t e P (min k e)
  stay : ∀ i, e ≤ i → i ≤ k → P i = t
  due : k ≤ e → D k (P k).toNat = (e : Int)
  rng : ∀ i, i ≤ k → 0 ≤ P i ∧ P i < (n : Int)
  free : f (P k).toNat = 0
section
variable {W : Int} {n : Nat} {f : Nat → Int} {R : Nat → Nat → Int} {J : Nat} {s t : Int} {T : Nat} {D : Nat → Nat → Int} {e : Nat} {P : Nat → Int} {k : Nat}
theorem gd_congr {P' : Nat → Int} {m : Nat} (h : Gd W n f R J s t e P m) (hp : ∀ i, i ≤ m → P i = P' i) : Gd W n f R J s t e P' m :=
  ⟨by rw [← hp 0 (Nat.zero_le _)]; exact h.beg, fun i hi => by rw [← hp i (by omega), ← hp (i + 1) (by omega)]; exact h.step i hi⟩
theorem pth_start (hD : ∀ k, k ≤ T + 1 → ∀ q, q < n → DueIs W n f R J t T k (q : Int) (D k q)) {S : Nat} (hS : S < n) (hf : f S = 0) (he : e ≤ T) (h0 : D 0 S = (e : Int)) : Pth W n f R J (S : Int) t T D e (fun _ => (S : Int)) 0 := by
  refine ⟨⟨rfl, fun i hi => absurd (show i < 0 by omega) (Nat.not_lt_zero _)⟩, fun i h1 h2 => ?_, fun _ => by simpa using h0, fun i _ => by omega, by simpa using hf⟩
  have he0 : e = 0 := by omega
  subst he0
  exact (due_now (hD 0 (by omega) S hS) (by simpa using h0) (by omega)).1
/-- one tick more -/
theorem pth_next (hu : Uq R T J) (hs : sizedB W n = true) (ht : frB n f t = true) (hD : ∀ k, k ≤ T + 1 → ∀ q, q < n → DueIs W n f R J t T k (q : Int) (D k q)) (he : e ≤ T) (h0 : D 0 s.toNat = (e : Int)) (hs0 : 0 ≤ s ∧ s < (n : Int)) (h : Pth W n f R J s t T D e P k) (hk : k < T) :
    ∃ x, (nbL W n f (P k).toNat).find? (opB R T J (k + 1) (P k).toNat (D (k + 1)) (max (e : Int) ((k : Int) + 1))) = some x ∧ Pth W n f R J s t T D e (put P (k + 1) x) (k + 1) := by
  obtain ⟨r0, r1⟩ := h.rng k (Nat.le_refl _)
  have hD' : ∀ k, k ≤ T + 1 → ∀ q, 0 ≤ q → q < (n : Int) → DueIs W n f R J t T k q ((fun k (q : Int) => D k q.toNat) k q) := fun k hk q h1 h2 => by
    have := hD k hk q.toNat (by omega)
    rw [show ((q.toNat : Nat) : Int) = q by omega] at this
    exact this
  have hPk : (((P k).toNat : Nat) : Int) = P k := by omega
  have hput : ∀ x i, i ≤ k → put P (k + 1) x i = P i := fun x i hi => if_neg (by omega)
  have hpn : ∀ x, put P (k + 1) x (k + 1) = x := fun x => if_pos rfl
  by_cases hke : k < e
  · have hmx : max (e : Int) ((k : Int) + 1) = (e : Int) := Int.max_eq_left (by omega)
    have h00 : cnB W n f R J t e 0 s = true := by
      have d0 := hD 0 (by omega) s.toNat (by omega)
      obtain ⟨e', q1, q2, q3, q4, q5⟩ := d0.got (by omega)
      have : e' = e := by omega
      subst this
      rw [Nat.sub_zero, show ((s.toNat : Nat) : Int) = s by omega] at q5
      exact q5
    have hcn := h.gd.cn h00 k (by omega)
    obtain ⟨x, hx⟩ := gd_next hke hcn
    have hfd := find_due hu hs hD' (k := k) (p := (P k).toNat) (e := e) (by omega) h.free hke he (by show D k (((P k).toNat : Nat) : Int).toNat = (e : Int); rw [Int.toNat_natCast]; exact h.due (by omega))
    rw [hPk] at hfd
    have hop : (nbL W n f (P k).toNat).find? (opB R T J (k + 1) (P k).toNat (D (k + 1)) (max (e : Int) ((k : Int) + 1))) = some x := by
      rw [hmx, ← hx]
      refine find_congr fun q hq => ?_
      unfold opB
      rw [hPk]
      exact hfd q hq
    refine ⟨x, hop, ?_⟩
    have hxo := List.find?_some hop
    rw [hmx] at hxo
    unfold opB at hxo
    simp only [Bool.and_eq_true, decide_eq_true_eq] at hxo
    have hxm := List.mem_of_find?_eq_some hop
    obtain ⟨X, rfl, hX⟩ := mem_nbL.1 hxm
    have hXn := hX.lt hs (by omega)
    refine ⟨⟨by rw [hput _ 0 (by omega)]; exact h.gd.beg, fun i hi => ?_⟩, fun i h1 h2 => ?_, fun _ => by rw [hpn]; exact hxo.1, fun i hi => ?_, by rw [hpn, Int.toNat_natCast]; exact hX.free hs h.free⟩
    · by_cases e2 : i = k
      · subst e2
        rw [hput _ i (Nat.le_refl _), hpn]
        exact hx
      · rw [hput _ i (by omega), hput _ (i + 1) (by omega)]
        exact h.gd.step i (by omega)
    · have hie : i = k + 1 := by omega
      subst hie
      rw [hpn]
      have hek : e = k + 1 := by omega
      have := due_now (hD (k + 1) (by omega) X hXn) (by rw [Int.toNat_natCast] at hxo; rw [hxo.1, hek]) (by omega)
      exact this.1
    · by_cases e2 : i = k + 1
      · subst e2; rw [hpn]; omega
      · rw [hput _ i (by omega)]; exact h.rng i (by omega)
  · have hmx : max (e : Int) ((k : Int) + 1) = ((k + 1 : Nat) : Int) := by rw [Int.max_eq_right (by omega)]; omega
    have hPt : P k = t := h.stay k (by omega) (Nat.le_refl _)
    have ha : ∀ k', e ≤ k' → k' ≤ T → nhB R k' t t J = true := by
      have d0 := hD 0 (by omega) s.toNat (by omega)
      obtain ⟨e', q1, q2, q3, q4, q5⟩ := d0.got (by omega)
      have : e' = e := by omega
      subst this
      exact q4
    have hop : (nbL W n f (P k).toNat).find? (opB R T J (k + 1) (P k).toNat (D (k + 1)) (max (e : Int) ((k : Int) + 1))) = some t := by
      rw [hmx]
      have h1 : (nbL W n f (P k).toNat).find? (opB R T J (k + 1) (P k).toNat (D (k + 1)) ((k + 1 : Nat) : Int)) = (nbL W n f (P k).toNat).find? (fun q => decide (q = t)) := find_congr fun q hq => by
        obtain ⟨X, rfl, hX⟩ := mem_nbL.1 hq
        have hXn := hX.lt hs (by omega)
        have h9 := find_stay hD' (k := k) ht (by omega) (fun k' h1 h2 => ha k' (by omega) h2) (q := (X : Int)) (by omega) (by omega)
        unfold opB
        rw [hPk, hPt]
        exact h9
      rw [h1]
      have hm : t ∈ nbL W n f (P k).toNat := mem_nbL.2 ⟨(P k).toNat, by rw [hPk]; exact hPt.symm, .inl rfl⟩
      obtain ⟨y, hy⟩ : ∃ y, (nbL W n f (P k).toNat).find? (fun q => decide (q = t)) = some y := by
        cases h9 : (nbL W n f (P k).toNat).find? (fun q => decide (q = t)) with
        | some y => exact ⟨y, rfl⟩
        | none =>
          have := List.find?_eq_none.1 h9 t hm
          simp at this
      have := List.find?_some hy
      rw [hy]
      simp only [decide_eq_true_eq] at this
      rw [this]
    refine ⟨t, hop, ?_⟩
    have htf := frB_t ht
    refine ⟨?_, fun i h1 h2 => ?_, fun h9 => by omega, fun i hi => ?_, by rw [hpn]; exact htf.2.2⟩
    · have hmin : min (k + 1) e = min k e := by omega
      rw [hmin]
      exact gd_congr h.gd (fun i hi => (hput t i (by omega)).symm)
    · by_cases e2 : i = k + 1
      · subst e2; exact hpn t
      · rw [hput t i (by omega)]; exact h.stay i h1 (by omega)
    · by_cases e2 : i = k + 1
      · subst e2; rw [hpn]; exact ⟨htf.1, htf.2.1⟩
      · rw [hput t i (by omega)]; exact h.rng i (by omega)
theorem pth_end (hs : sizedB W n = true) (ht : frB n f t = true) (hD : ∀ k, k ≤ T + 1 → ∀ q, q < n → DueIs W n f R J t T k (q : Int) (D k q)) (he : e ≤ T) (h0 : D 0 s.toNat = (e : Int)) (hs0 : 0 ≤ s ∧ s < (n : Int)) (h : Pth W n f R J s t T D e P T) : Bp W n f R J s t T P := by
  have d0 := hD 0 (by omega) s.toNat (by omega)
  rw [show ((s.toNat : Nat) : Int) = s by omega] at d0
  have hmin : min T e = e := by omega
  have hg := h.gd
  rw [hmin] at hg
  exact due_best hs d0 h0 he ht hg (fun k h1 h2 => h.stay k h1 h2)
end
end Go.Proofs.YtbndhhjgjalecaaDoor
