/- The path of one trip: there earliest, of these the least list; how it is found. Numbers alone. -/
import Derived.Test.YtbndhhjgjalecaaDoorQCwGpM
import Derived.Test.YtbndhhjgjalecaaDoorQClNxB
namespace Go.Proofs.YtbndhhjgjalecaaDoor

/-- do the first paths let one go from a to b at a tick -/
def nhB (R : Nat → Nat → Int) (k : Nat) (a b : Int) : Nat → Bool
  | 0 => true
  | J + 1 => nhB R k a b J && !hitB (R J) k a b
theorem nhB_iff {R : Nat → Nat → Int} {k : Nat} {a b : Int} {J : Nat} : nhB R k a b J = true ↔ ∀ j, j < J → hitB (R j) k a b = false := by
  induction J with
  | zero => simp [nhB]
  | succ J ih =>
    simp only [nhB, Bool.and_eq_true, ih, Bool.not_eq_true']
    constructor
    · rintro ⟨h1, h2⟩ j hj
      by_cases e : j = J
      · subst e; exact h2
      · exact h1 j (by omega)
    · intro h
      exact ⟨fun j hj => h j (by omega), h J (by omega)⟩
/-- whoever may come to b may stay there -/
theorem nhB_stay {R : Nat → Nat → Int} {k : Nat} {a b : Int} {J : Nat} (h : nhB R k a b J = true) : nhB R k b b J = true := by
  rw [nhB_iff] at h ⊢
  intro j hj
  have := h j hj
  unfold hitB at this ⊢
  simp only [Bool.or_eq_false_iff] at this ⊢
  refine ⟨this.1, ?_⟩
  rw [this.1]
  simp

section
variable (W : Int) (n : Nat) (f : Nat → Int) (R : Nat → Nat → Int) (J : Nat) (s t : Int) (T : Nat)
/-- a path of a trip that meets none of the first ones -/
structure Vp (P : Nat → Int) : Prop where
  beg : P 0 = s
  beg0 : nhB R 0 s s J = true
  step : ∀ k, k < T → P (k + 1) ∈ nbL W n f (P k).toNat
  free : ∀ k, k < T → nhB R (k + 1) (P k) (P (k + 1)) J = true
  fin : P T = t
/-- it stays at its end from a tick on -/
def Ar (P : Nat → Int) (e : Nat) : Prop := ∀ k, e ≤ k → k ≤ T → P k = t
/-- the list is not greater -/
def Lx (P Q : Nat → Int) : Prop := (∀ k, k ≤ T → P k = Q k) ∨ ∃ k, k ≤ T ∧ (∀ i, i < k → P i = Q i) ∧ P k < Q k
/-- there earliest, and of these the least list -/
def Bp (P : Nat → Int) : Prop := Vp W n f R J s t T P ∧ ∃ e, e ≤ T ∧ Ar t T P e ∧ (∀ Q e', Vp W n f R J s t T Q → Ar t T Q e' → e' ≤ T → e ≤ e') ∧ ∀ Q, Vp W n f R J s t T Q → Ar t T Q e → Lx T P Q
/-- can one be at the end in d ticks, from a cell at a tick -/
def cnB : Nat → Nat → Int → Bool
  | 0, _, c => c == t
  | d + 1, k, c => (nbL W n f c.toNat).any fun q => nhB R (k + 1) c q J && cnB d (k + 1) q
/-- from this tick on one may stay at the end -/
structure Sy (st : Nat) : Prop where
  le : st ≤ T + 1
  all : ∀ k, st ≤ k → k ≤ T → nhB R k t t J = true
  no : 0 < st → nhB R (st - 1) t t J = false
end
section
variable {W : Int} {n : Nat} {f : Nat → Int} {R : Nat → Nat → Int} {J : Nat} {s t : Int} {T : Nat}
theorem Bp.uniq {P P' : Nat → Int} (h : Bp W n f R J s t T P) (h' : Bp W n f R J s t T P') : ∀ k, k ≤ T → P k = P' k := by
  obtain ⟨v, e, h1, h2, h3, h4⟩ := h
  obtain ⟨v', e', g1, g2, g3, g4⟩ := h'
  have := h3 P' e' v' g2 g1
  have := g3 P e v h2 h1
  obtain rfl : e = e' := by omega
  rcases h4 P' v' g2 with h | ⟨k, hk, ha, hb⟩
  · exact h
  · rcases g4 P v h2 with h | ⟨k', hk', ha', hb'⟩
    · exact fun k hk => (h k hk).symm
    · exfalso
      rcases Nat.lt_trichotomy k k' with hh | hh | hh
      · have := ha' k hh; omega
      · subst hh; omega
      · have := ha k' hh; omega
theorem cn_of {Q : Nat → Int} : ∀ (d k : Nat), Q (k + d) = t → (∀ i, k ≤ i → i < k + d → Q (i + 1) ∈ nbL W n f (Q i).toNat ∧ nhB R (i + 1) (Q i) (Q (i + 1)) J = true) → cnB W n f R J t d k (Q k) = true := by
  intro d
  induction d with
  | zero => intro k h _; simp only [cnB, beq_iff_eq]; exact h
  | succ d ih =>
    intro k h hs
    simp only [cnB, List.any_eq_true, Bool.and_eq_true]
    obtain ⟨h1, h2⟩ := hs k (Nat.le_refl _) (by omega)
    exact ⟨Q (k + 1), h1, h2, ih (k + 1) (by rw [show k + 1 + d = k + (d + 1) by omega]; exact h) (fun i hi hj => hs i (by omega) (by omega))⟩
/-- whoever is there at e: from e on one may stay, and e can be come to -/
theorem Vp.least {Q : Nat → Int} (h : Vp W n f R J s t T Q) {e st : Nat} (ha : Ar t T Q e) (he : e ≤ T) (hs : Sy R J t T st) : st ≤ e ∧ cnB W n f R J t e 0 s = true := by
  constructor
  · rcases Nat.lt_or_ge e st with hlt | hge
    · exfalso
      have hno := hs.no (by omega)
      have h1 : nhB R (st - 1) t t J = true := by
        by_cases e0 : st - 1 = 0
        · rw [e0]
          have e1 : e = 0 := by omega
          have := ha 0 (by omega) (by omega)
          rw [h.beg] at this
          rw [← this]; exact h.beg0
        · have hf := h.free (st - 2) (by have := hs.le; omega)
          rw [show st - 2 + 1 = st - 1 by omega, ha (st - 1) (by omega) (by have := hs.le; omega)] at hf
          exact nhB_stay hf
      rw [h1] at hno; cases hno
    · exact hge
  · have := cn_of (W := W) (n := n) (f := f) (R := R) (J := J) (t := t) (Q := Q) e 0 (by rw [Nat.zero_add]; exact ha e (Nat.le_refl _) he) (fun i _ hi => ⟨h.step i (by omega), h.free i (by omega)⟩)
    rw [h.beg] at this
    exact this
/-- the first of a list whose numbers don't fall is the least -/
theorem find_least {l : List Int} {p : Int → Bool} {x : Int} (hl : l.Pairwise (· ≤ ·)) (h : l.find? p = some x) : ∀ y, y ∈ l → p y = true → x ≤ y := by
  induction l with
  | nil => simp at h
  | cons a l ih =>
    intro y hy hp
    rw [List.pairwise_cons] at hl
    rw [List.find?_cons] at h
    cases hpa : p a with
    | true =>
      rw [hpa] at h
      simp only [Option.some.injEq] at h
      subst h
      rcases List.mem_cons.1 hy with rfl | hy
      · exact Int.le_refl _
      · exact hl.1 y hy
    | false =>
      rw [hpa] at h
      rcases List.mem_cons.1 hy with rfl | hy
      · rw [hpa] at hp; cases hp
      · exact ih hl.2 h y hy hp
theorem nbL_sorted (hs : sizedB W n = true) (p : Nat) : (nbL W n f p).Pairwise (· ≤ ·) := by
  have hW := (sizedB_t hs).1
  have hp := Int.emod_def (p : Int) W
  have e : ∀ v, v < 4 → nxp W n f v p = -1 ∨ nxp W n f v p = (p : Int) + dY v * W + dX v := fun v _ => by
    unfold nxp nx
    split
    · right
      rw [Int.add_mul, Int.mul_comm ((p : Int) / W) W]
      omega
    · exact .inl rfl
  have e3 := e 3 (by omega)
  have e2 := e 2 (by omega)
  have e0 := e 0 (by omega)
  have e1 := e 1 (by omega)
  simp only [dX, dY, List.getD_cons_succ, List.getD_cons_zero, Int.one_mul, Int.zero_mul, Int.neg_mul] at e0 e1 e2 e3
  unfold nbL nnK
  rw [show (nbK W n f p).take 5 = nbK W n f p from rfl]
  unfold nbK
  generalize nxp W n f 3 p = a at *
  generalize nxp W n f 2 p = b at *
  generalize nxp W n f 0 p = c at *
  generalize nxp W n f 1 p = d at *
  have key : ∀ l : List Int, l.Pairwise (fun x y => 0 ≤ x → 0 ≤ y → x ≤ y) → (l.filter fun x => decide (0 ≤ x)).Pairwise (· ≤ ·) := by
    intro l
    induction l with
    | nil => intro _; exact List.Pairwise.nil
    | cons x l ih =>
      intro h
      rw [List.pairwise_cons] at h
      by_cases hx : 0 ≤ x
      · rw [List.filter_cons_of_pos (by simpa using hx), List.pairwise_cons]
        exact ⟨fun y hy => by
          rw [List.mem_filter] at hy
          exact h.1 y hy.1 hx (by simpa using hy.2), ih h.2⟩
      · rw [List.filter_cons_of_neg (by simpa using hx)]
        exact ih h.2
  apply key
  simp only [List.pairwise_cons, List.mem_cons, List.not_mem_nil, or_false, forall_eq_or_imp, forall_eq, List.Pairwise.nil, and_true, false_imp_iff, implies_true]
  omega
/-- one goes, each tick, to the first cell from which the end can be come to in time -/
structure Gd (W : Int) (n : Nat) (f : Nat → Int) (R : Nat → Nat → Int) (J : Nat) (s t : Int) (e : Nat) (P : Nat → Int) (m : Nat) : Prop where
  beg : P 0 = s
  step : ∀ k, k < m → (nbL W n f (P k).toNat).find? (fun q => cnB W n f R J t (e - (k + 1)) (k + 1) q && nhB R (k + 1) (P k) q J) = some (P (k + 1))
theorem Gd.cn {e m : Nat} {P : Nat → Int} (h : Gd W n f R J s t e P m) (h0 : cnB W n f R J t e 0 s = true) : ∀ k, k ≤ m → cnB W n f R J t (e - k) k (P k) = true := by
  intro k hk
  cases k with
  | zero => rw [h.beg]; exact h0
  | succ k =>
    have := List.find?_some (h.step k (by omega))
    simp only [Bool.and_eq_true] at this
    exact this.1
/-- there is always such a cell -/
theorem gd_next {e k : Nat} {c : Int} (hk : k < e) (h : cnB W n f R J t (e - k) k c = true) : ∃ q, (nbL W n f c.toNat).find? (fun q => cnB W n f R J t (e - (k + 1)) (k + 1) q && nhB R (k + 1) c q J) = some q := by
  rw [show e - k = (e - (k + 1)) + 1 by omega] at h
  simp only [cnB, List.any_eq_true, Bool.and_eq_true] at h
  obtain ⟨q, h1, h2, h3⟩ := h
  cases hf : (nbL W n f c.toNat).find? (fun q => cnB W n f R J t (e - (k + 1)) (k + 1) q && nhB R (k + 1) c q J) with
  | some x => exact ⟨x, rfl⟩
  | none =>
    have := List.find?_eq_none.1 hf q h1
    simp [h2, h3] at this
theorem best_of {e st : Nat} {P : Nat → Int} (hs : sizedB W n = true) (ht : 0 ≤ t) (hsy : Sy R J t T st) (he1 : st ≤ e) (he2 : e ≤ T) (h00 : nhB R 0 s s J = true)
    (hmin : ∀ e', st ≤ e' → e' < e → cnB W n f R J t e' 0 s = false) (hg : Gd W n f R J s t e P e) (hP : ∀ k, e ≤ k → k ≤ T → P k = t) : Bp W n f R J s t T P := by
  have hstep : ∀ k, k < e → P (k + 1) ∈ nbL W n f (P k).toNat ∧ nhB R (k + 1) (P k) (P (k + 1)) J = true := fun k hk => by
    have h1 := hg.step k hk
    have h2 := List.find?_some h1
    simp only [Bool.and_eq_true] at h2
    exact ⟨List.mem_of_find?_eq_some h1, h2.2⟩
  refine ⟨⟨hg.beg, h00, fun k hk => ?_, fun k hk => ?_, hP T he2 (Nat.le_refl _)⟩, e, he2, hP, fun Q e' hQ ha' he' => ?_, fun Q hQ haQ => ?_⟩
  · rcases Nat.lt_or_ge k e with hlt | hge
    · exact (hstep k hlt).1
    · rw [hP (k + 1) (by omega) (by omega), hP k hge (by omega)]
      exact mem_nbL.2 ⟨t.toNat, by omega, .inl rfl⟩
  · rcases Nat.lt_or_ge k e with hlt | hge
    · exact (hstep k hlt).2
    · rw [hP (k + 1) (by omega) (by omega), hP k hge (by omega)]
      exact hsy.all (k + 1) (by omega) (by omega)
  · obtain ⟨h1, h2⟩ := hQ.least ha' he' hsy
    rcases Nat.lt_or_ge e' e with hlt | hge
    · rw [hmin e' h1 hlt] at h2; cases h2
    · exact hge
  · -- the first tick at which they part
    have key : ∀ m, m ≤ T + 1 → (∀ k, k < m → P k = Q k) ∨ ∃ k, k ≤ T ∧ (∀ i, i < k → P i = Q i) ∧ P k < Q k := by
      intro m
      induction m with
      | zero => intro _; exact .inl fun k hk => absurd hk (Nat.not_lt_zero _)
      | succ m ih =>
        intro hm
        rcases ih (by omega) with h | h
        · by_cases hpq : P m = Q m
          · left
            intro k hk
            by_cases e : k = m
            · subst e; exact hpq
            · exact h k (by omega)
          · right
            refine ⟨m, by omega, h, ?_⟩
            have hm0 : m ≠ 0 := fun e0 => hpq (by rw [e0, hg.beg, hQ.beg])
            have hme : m ≤ e := by
              rcases Nat.lt_or_ge e m with hlt | hge
              · exact absurd (by rw [hP m (by omega) (by omega), haQ m (by omega) (by omega)]) hpq
              · exact hge
            have hfd := hg.step (m - 1) (by omega)
            rw [show m - 1 + 1 = m by omega] at hfd
            have hq1 := hQ.step (m - 1) (by omega)
            have hq2 := hQ.free (m - 1) (by omega)
            rw [show m - 1 + 1 = m by omega, ← h (m - 1) (by omega)] at hq1 hq2
            have hq3 := cn_of (W := W) (n := n) (f := f) (R := R) (J := J) (t := t) (Q := Q) (e - m) m (by rw [show m + (e - m) = e by omega]; exact haQ e (Nat.le_refl _) he2) (fun i h1 h2 => ⟨hQ.step i (by omega), hQ.free i (by omega)⟩)
            have := find_least (nbL_sorted hs _) hfd (Q m) hq1 (by simp only [Bool.and_eq_true]; exact ⟨hq3, hq2⟩)
            omega
        · exact .inr h
    rcases key (T + 1) (Nat.le_refl _) with h | h
    · exact .inl fun k hk => h k (by omega)
    · exact .inr h
/-- where no tick will do there is no path -/
theorem none_of {st : Nat} (hsy : Sy R J t T st) (h : nhB R 0 s s J = false ∨ ∀ e, st ≤ e → e ≤ T → cnB W n f R J t e 0 s = false) (P : Nat → Int) : ¬ Vp W n f R J s t T P := fun hv => by
  obtain ⟨h1, h2⟩ := hv.least (e := T) (fun k hk hk' => (by
    have hkT : k = T := by omega
    rw [hkT]; exact hv.fin)) (Nat.le_refl _) hsy
  rcases h with h | h
  · rw [hv.beg0] at h; cases h
  · rw [h T h1 (Nat.le_refl _)] at h2; cases h2
end
end Go.Proofs.YtbndhhjgjalecaaDoor

/- What PlanCrowd tells: best paths one behind the other; there is but one such list. Numbers alone. -/
namespace Go.Proofs.YtbndhhjgjalecaaDoor

section
variable {W : Int} {n : Nat} {f : Nat → Int} {R R' : Nat → Nat → Int} {J : Nat} {s t : Int} {T : Nat}
theorem hitB_congr {F F' : Nat → Int} {k : Nat} {a b : Int} (h : ∀ i, i ≤ k → F i = F' i) : hitB F k a b = hitB F' k a b := by
  unfold hitB
  rw [h k (Nat.le_refl _), h (k - 1) (by omega)]
theorem nhB_congr {k : Nat} {a b : Int} (h : ∀ j, j < J → ∀ i, i ≤ k → R j i = R' j i) : nhB R k a b J = nhB R' k a b J := by
  induction J with
  | zero => rfl
  | succ J ih =>
    unfold nhB
    rw [ih (fun j hj => h j (by omega)), hitB_congr (h J (by omega))]
theorem Vp.congr {P : Nat → Int} (h : ∀ j, j < J → ∀ i, i ≤ T → R j i = R' j i) (v : Vp W n f R J s t T P) : Vp W n f R' J s t T P :=
  ⟨v.beg, by rw [← nhB_congr (k := 0) (fun j hj i hi => h j hj i (by omega))]; exact v.beg0, v.step, fun k hk => by rw [← nhB_congr (k := k + 1) (fun j hj i hi => h j hj i (by omega))]; exact v.free k hk, v.fin⟩
theorem Bp.congr {P : Nat → Int} (h : ∀ j, j < J → ∀ i, i ≤ T → R j i = R' j i) (b : Bp W n f R J s t T P) : Bp W n f R' J s t T P := by
  have h' : ∀ j, j < J → ∀ i, i ≤ T → R' j i = R j i := fun j hj i hi => (h j hj i hi).symm
  obtain ⟨v, e, h1, h2, h3, h4⟩ := b
  exact ⟨v.congr h, e, h1, h2, fun Q e' hQ => h3 Q e' (hQ.congr h'), fun Q hQ => h4 Q (hQ.congr h')⟩
/-- the same path by another name -/
theorem Bp.same {P P' : Nat → Int} (h : ∀ k, k ≤ T → P k = P' k) (b : Bp W n f R J s t T P) : Bp W n f R J s t T P' := by
  obtain ⟨v, e, h1, h2, h3, h4⟩ := b
  refine ⟨⟨by rw [← h 0 (Nat.zero_le _)]; exact v.beg, v.beg0, fun k hk => ?_, fun k hk => ?_, by rw [← h T (Nat.le_refl _)]; exact v.fin⟩, e, h1, fun k hk hk' => by rw [← h k hk']; exact h2 k hk hk', h3, fun Q hQ hA => ?_⟩
  · rw [← h k (by omega), ← h (k + 1) (by omega)]; exact v.step k hk
  · rw [← h k (by omega), ← h (k + 1) (by omega)]; exact v.free k hk
  · rcases h4 Q hQ hA with hx | ⟨k, hk, ha, hb⟩
    · exact .inl fun k hk => by rw [← h k hk]; exact hx k hk
    · exact .inr ⟨k, hk, fun i hi => by rw [← h i (by omega)]; exact ha i hi, by rw [← h k hk]; exact hb⟩
end
/-- the first i paths are best ones -/
def Bests (W : Int) (n : Nat) (f g : Nat → Int) (R : Nat → Nat → Int) (T i : Nat) : Prop := ∀ j, j < i → Bp W n f R j (g (j * 2)) (g (j * 2 + 1)) T (R j)
theorem Bests.agree {W : Int} {n : Nat} {f g : Nat → Int} {R R' : Nat → Nat → Int} {T i : Nat} (h : Bests W n f g R T i) (h' : Bests W n f g R' T i) : ∀ j, j < i → ∀ k, k ≤ T → R j k = R' j k := by
  intro j
  induction j using Nat.strongRecOn with
  | ind j ih =>
    intro hj
    exact (h j hj).uniq ((h' j hj).congr fun j' hj' k hk => (ih j' hj' (by omega) k hk).symm)
/-- what PlanCrowd tells -/
def PlnIs (W : Int) (n : Nat) (f : Nat → Int) (m : Nat) (g : Nat → Int) (tk : Int) (ok : Bool) (R : Nat → Nat → Int) : Prop :=
  (ok = true ∧ (gtB W n f m g = true ∧ 0 ≤ tk ∧ tk ≤ 20) ∧ Bests W n f g R tk.toNat m) ∨
    (ok = false ∧ (¬ (gtB W n f m g = true ∧ 0 ≤ tk ∧ tk ≤ 20) ∨ ∃ (i : Nat) (R' : Nat → Nat → Int), i < m ∧ Bests W n f g R' tk.toNat i ∧ ∀ P, ¬ Vp W n f R' i (g (i * 2)) (g (i * 2 + 1)) tk.toNat P))
theorem PlnIs.not {W : Int} {n : Nat} {f : Nat → Int} {m : Nat} {g : Nat → Int} {tk : Int} {R R' : Nat → Nat → Int} (h : PlnIs W n f m g tk true R) (h' : PlnIs W n f m g tk false R') : False := by
  rcases h with ⟨-, h1, h2⟩ | ⟨h0, -⟩
  · rcases h' with ⟨h0, -⟩ | ⟨-, h3 | ⟨i, R2, hi, h3, h4⟩⟩
    · cases h0
    · exact h3 h1
    · have ha : ∀ j, j < i → ∀ k, k ≤ tk.toNat → R j k = R2 j k := Bests.agree (fun j hj => h2 j (by omega)) h3
      exact h4 _ ((h2 i hi).1.congr ha)
  · cases h0
theorem PlnIs.uniq {W : Int} {n : Nat} {f : Nat → Int} {m : Nat} {g : Nat → Int} {tk : Int} {ok ok' : Bool} {R R' : Nat → Nat → Int} (h : PlnIs W n f m g tk ok R) (h' : PlnIs W n f m g tk ok' R') : ok = ok' ∧ (ok = true → ∀ i, i < m → ∀ k, k ≤ tk.toNat → R i k = R' i k) := by
  cases ok with
  | true =>
    cases ok' with
    | true =>
      refine ⟨rfl, fun _ => ?_⟩
      rcases h with ⟨-, -, h2⟩ | ⟨h0, -⟩
      · rcases h' with ⟨-, -, h3⟩ | ⟨h0, -⟩
        · exact Bests.agree h2 h3
        · cases h0
      · cases h0
    | false => exact absurd h' fun x => h.not x
  | false =>
    cases ok' with
    | true => exact absurd h fun x => h'.not x
    | false => exact ⟨rfl, fun x => by cases x⟩
end Go.Proofs.YtbndhhjgjalecaaDoor
