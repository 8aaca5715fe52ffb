/- When one is due at its end: what the table backwards tells; the path that is read off it. Numbers alone. -/
import Derived.Test.YtbndhhjgjalecaaDoorQCwPnM
namespace Go.Proofs.YtbndhhjgjalecaaDoor

/-- which trip has taken a spot -/
def mR (R : Nat → Nat → Int) (T : Nat) : Nat → Int × Int → Option Int
  | 0, _ => none
  | J + 1, x => if 0 ≤ x.1 ∧ x.1 ≤ (T : Int) ∧ R J x.1.toNat = x.2 then some (J : Int) else mR R T J x
/-- .. while a path is being taken: its first q ticks -/
def mT (R : Nat → Nat → Int) (T J : Nat) (P : Nat → Int) (q : Nat) (x : Int × Int) : Option Int := if 0 ≤ x.1 ∧ x.1 < (q : Int) ∧ P x.1.toNat = x.2 then some (J : Int) else mR R T J x
section
variable {W : Int} {n : Nat} {f : Nat → Int} {R : Nat → Nat → Int} {J : Nat} {s t : Int} {T : Nat}
theorem mR_some {k : Nat} (hk : k ≤ T) (c : Int) : (mR R T J ((k : Int), c)).isSome = !nhB R k c c J := by
  induction J with
  | zero => rfl
  | succ J ih =>
    unfold mR nhB
    simp only [Int.toNat_natCast]
    by_cases e : R J k = c
    · rw [if_pos ⟨by omega, by omega, e⟩]
      have : hitB (R J) k c c = true := by simp [hitB, e]
      rw [this]; simp
    · rw [if_neg (fun h => e h.2.2), ih]
      have : hitB (R J) k c c = false := by simp [hitB, e]
      rw [this]; simp
theorem mR_out {x : Int × Int} (h : ¬ (0 ≤ x.1 ∧ x.1 ≤ (T : Int))) : mR R T J x = none := by
  induction J with
  | zero => rfl
  | succ J ih => unfold mR; rw [if_neg (fun e => h ⟨e.1, e.2.1⟩), ih]
theorem mR_get {k : Nat} {c : Int} {v : Int} (h : mR R T J ((k : Int), c) = some v) : ∃ j, j < J ∧ v = (j : Int) ∧ R j k = c := by
  induction J with
  | zero => cases h
  | succ J ih =>
    unfold mR at h
    simp only [Int.toNat_natCast] at h
    by_cases e : 0 ≤ (k : Int) ∧ (k : Int) ≤ (T : Int) ∧ R J k = c
    · rw [if_pos e] at h
      exact ⟨J, by omega, (Option.some.inj h).symm, e.2.2⟩
    · rw [if_neg e] at h
      obtain ⟨j, hj, h1, h2⟩ := ih h
      exact ⟨j, by omega, h1, h2⟩
/-- no two are at one cell -/
def Uq (R : Nat → Nat → Int) (T J : Nat) : Prop := ∀ i j k, i < J → j < J → k ≤ T → R i k = R j k → i = j
theorem mR_of (hu : Uq R T J) {k j : Nat} {c : Int} (hk : k ≤ T) (hj : j < J) (e : R j k = c) : mR R T J ((k : Int), c) = some (j : Int) := by
  cases h : mR R T J ((k : Int), c) with
  | none =>
    have h1 := mR_some (R := R) (J := J) (T := T) hk c
    rw [h] at h1
    have h2 : nhB R k c c J = true := by cases e2 : nhB R k c c J <;> simp [e2] at h1 ⊢
    have h3 := nhB_iff.1 h2 j hj
    simp [hitB, e] at h3
  | some v =>
    obtain ⟨j', hj', rfl, e'⟩ := mR_get h
    rw [hu j' j k hj' hj hk (by rw [e', e])]
/-- does one and the same come the other way -/
def swB (R : Nat → Nat → Int) (T J k : Nat) (a b : Int) : Bool :=
  (mR R T J ((k : Int) - 1, b)).isSome && (mR R T J ((k : Int), a)).isSome && ((mR R T J ((k : Int) - 1, b)).getD 0 == (mR R T J ((k : Int), a)).getD 0)
theorem nh_sw (hu : Uq R T J) {k : Nat} (hk : k + 1 ≤ T) (a b : Int) : nhB R (k + 1) a b J = (nhB R (k + 1) b b J && !swB R T J (k + 1) a b) := by
  have hc : (((k + 1 : Nat) : Int) - 1) = (k : Int) := by omega
  rw [Bool.eq_iff_iff]
  simp only [Bool.and_eq_true, Bool.not_eq_true']
  constructor
  · intro h
    refine ⟨nhB_stay h, ?_⟩
    cases e : swB R T J (k + 1) a b with
    | false => rfl
    | true =>
      exfalso
      unfold swB at e
      rw [hc] at e
      simp only [Bool.and_eq_true, beq_iff_eq] at e
      obtain ⟨⟨e1, e2⟩, e3⟩ := e
      obtain ⟨v1, h1⟩ := Option.isSome_iff_exists.1 e1
      obtain ⟨v2, h2⟩ := Option.isSome_iff_exists.1 e2
      rw [h1, h2] at e3
      obtain ⟨j1, g1, q1, r1⟩ := mR_get h1
      obtain ⟨j2, g2, q2, r2⟩ := mR_get h2
      simp only [Option.getD_some] at e3
      have : j1 = j2 := by omega
      subst this
      have := nhB_iff.1 h j1 g1
      simp [hitB, r1, r2] at this
  · rintro ⟨h1, h2⟩
    rw [nhB_iff]
    intro j hj
    have g1 := nhB_iff.1 h1 j hj
    cases e : hitB (R j) (k + 1) a b with
    | false => rfl
    | true =>
      exfalso
      have gb : R j (k + 1) ≠ b := fun e2 => by simp [hitB, e2] at g1
      unfold hitB at e
      simp only [Nat.add_sub_cancel, Bool.or_eq_true, Bool.and_eq_true, beq_iff_eq, decide_eq_true_eq] at e
      rcases e with e | ⟨⟨_, e1⟩, e2⟩
      · exact gb e
      · have m1 := mR_of hu (k := k) (by omega) hj e1
        have m2 := mR_of hu (k := k + 1) hk hj e2
        unfold swB at h2
        rw [hc, m1, m2] at h2
        simp at h2
/-- one is there for good at e, from a cell at a tick on -/
def Dq (W : Int) (n : Nat) (f : Nat → Int) (R : Nat → Nat → Int) (J : Nat) (t : Int) (T k : Nat) (c : Int) (e : Nat) : Prop := k ≤ e ∧ e ≤ T ∧ (∀ k', e ≤ k' → k' ≤ T → nhB R k' t t J = true) ∧ cnB W n f R J t (e - k) k c = true
/-- may one be at a cell at a tick -/
def okC (n : Nat) (f : Nat → Int) (R : Nat → Nat → Int) (J k : Nat) (c : Int) : Bool := frB n f c && nhB R k c c J
/-- what the table is to tell -/
structure DueIs (W : Int) (n : Nat) (f : Nat → Int) (R : Nat → Nat → Int) (J : Nat) (t : Int) (T k : Nat) (c : Int) (d : Int) : Prop where
  lo : (k : Int) ≤ d
  hi : d ≤ (T : Int) + 1
  no : okC n f R J k c = false → d = (T : Int) + 1
  least : okC n f R J k c = true → ∀ e, Dq W n f R J t T k c e → d ≤ (e : Int)
  got : d ≤ (T : Int) → ∃ e : Nat, d = (e : Int) ∧ Dq W n f R J t T k c e
theorem DueIs.ok {k : Nat} {c d : Int} (h : DueIs W n f R J t T k c d) (hd : d ≤ (T : Int)) : okC n f R J k c = true := by
  cases e : okC n f R J k c with
  | true => rfl
  | false => have := h.no e; omega
/-- one is due at once -/
theorem due_now {k : Nat} {c d : Int} (h : DueIs W n f R J t T k c d) (hd : d = (k : Int)) (hk : k ≤ T) : c = t ∧ ∀ k', k ≤ k' → k' ≤ T → nhB R k' t t J = true := by
  obtain ⟨e, he, h1, h2, h3, h4⟩ := h.got (by omega)
  have : e = k := by omega
  subst this
  rw [Nat.sub_self] at h4
  simp only [cnB, beq_iff_eq] at h4
  exact ⟨h4, h3⟩
theorem due_stay {k : Nat} {d : Int} (h : DueIs W n f R J t T k t d) (hf : frB n f t = true) (hk : k ≤ T) (ha : ∀ k', k ≤ k' → k' ≤ T → nhB R k' t t J = true) : d = (k : Int) := by
  have h0 : okC n f R J k t = true := by unfold okC; rw [hf, ha k (Nat.le_refl _) hk]; rfl
  have := h.least h0 k ⟨Nat.le_refl _, hk, ha, by rw [Nat.sub_self]; simp [cnB]⟩
  have := h.lo
  omega
/-- the table's last row -/
theorem due_end (c : Int) : DueIs W n f R J t T (T + 1) c ((T : Int) + 1) :=
  ⟨by omega, Int.le_refl _, fun _ => rfl, fun _ e he => by have := he.1; have := he.2.1; omega, fun h => by omega⟩
theorem due_no {k : Nat} {c : Int} (hk : k ≤ T) (h : okC n f R J k c = false) : DueIs W n f R J t T k c ((T : Int) + 1) :=
  ⟨by omega, Int.le_refl _, fun _ => rfl, fun h' => (by rw [h] at h'; cases h'), fun h => by omega⟩
/-- at the end, for good -/
theorem due_at {k : Nat} (hk : k ≤ T) (hok : okC n f R J k t = true) (ha : ∀ k', k + 1 ≤ k' → k' ≤ T → nhB R k' t t J = true) : DueIs W n f R J t T k t (k : Int) := by
  have h0 : nhB R k t t J = true := by unfold okC at hok; simp only [Bool.and_eq_true] at hok; exact hok.2
  refine ⟨Int.le_refl _, by omega, fun h => (by rw [hok] at h; cases h), fun _ e he => by have := he.1; omega, fun _ => ⟨k, rfl, Nat.le_refl _, hk, fun k' h1 h2 => ?_, by rw [Nat.sub_self]; simp [cnB]⟩⟩
  by_cases e : k' = k
  · subst e; exact h0
  · exact ha k' (by omega) h2
/-- the least of the first j ways on -/
def lsK (R : Nat → Nat → Int) (J T k : Nat) (c : Int) (l : List Int) (D : Int → Int) : Nat → Int
  | 0 => (T : Int) + 1
  | j + 1 => if swB R T J (k + 1) c (gl l j) then lsK R J T k c l D j else min (lsK R J T k c l D j) (D (gl l j))
theorem lsK_le {k : Nat} {c : Int} {l : List Int} {D : Int → Int} {j m : Nat} (hj : j < m) (hs : swB R T J (k + 1) c (gl l j) = false) : lsK R J T k c l D m ≤ D (gl l j) := by
  induction m with
  | zero => omega
  | succ m ih =>
    unfold lsK
    by_cases e : j = m
    · subst e; rw [hs]; simp only [Bool.false_eq_true, if_false]; omega
    · have := ih (by omega)
      split <;> omega
theorem lsK_top {k : Nat} {c : Int} {l : List Int} {D : Int → Int} {m : Nat} : lsK R J T k c l D m ≤ (T : Int) + 1 := by
  induction m with
  | zero => exact Int.le_refl _
  | succ m ih => unfold lsK; split <;> omega
theorem lsK_is {k : Nat} {c : Int} {l : List Int} {D : Int → Int} {m : Nat} : lsK R J T k c l D m = (T : Int) + 1 ∨ ∃ j, j < m ∧ swB R T J (k + 1) c (gl l j) = false ∧ lsK R J T k c l D m = D (gl l j) := by
  induction m with
  | zero => exact .inl rfl
  | succ m ih =>
    unfold lsK
    cases hs : swB R T J (k + 1) c (gl l m) with
    | true =>
      simp only [if_true]
      rcases ih with h | ⟨j, h1, h2, h3⟩
      · exact .inl h
      · exact .inr ⟨j, by omega, h2, h3⟩
    | false =>
      simp only [Bool.false_eq_true, if_false]
      by_cases h9 : lsK R J T k c l D m ≤ D (gl l m)
      · rw [Int.min_eq_left h9]
        rcases ih with h | ⟨j, h1, h2, h3⟩
        · exact .inl h
        · exact .inr ⟨j, by omega, h2, h3⟩
      · rw [Int.min_eq_right (by omega)]
        exact .inr ⟨m, by omega, hs, rfl⟩
theorem mem_gl {l : List Int} {x : Int} : x ∈ l ↔ ∃ k, k < l.length ∧ gl l k = x := by
  constructor
  · intro h
    obtain ⟨q, hq, e⟩ := List.mem_iff_getElem.1 h
    exact ⟨q, hq, by unfold gl; rw [List.getD_eq_getElem?_getD, List.getElem?_eq_getElem hq]; exact e⟩
  · rintro ⟨q, h1, h2⟩
    rw [← h2]
    unfold gl; rw [List.getD_eq_getElem?_getD, List.getElem?_eq_getElem h1]; exact List.getElem_mem h1
/-- all ways on -/
theorem due_step (hu : Uq R T J) (hs : sizedB W n = true) {k p : Nat} {D : Int → Int} (hk : k ≤ T) (hok : okC n f R J k (p : Int) = true) (hnow : ¬ ((p : Int) = t ∧ ∀ k', k + 1 ≤ k' → k' ≤ T → nhB R k' t t J = true))
    (hD : ∀ q ∈ nbL W n f p, DueIs W n f R J t T (k + 1) q (D q)) : DueIs W n f R J t T k (p : Int) (lsK R J T k (p : Int) (nbL W n f p) D (nbL W n f p).length) := by
  have hfp := frB_t (show frB n f (p : Int) = true by unfold okC at hok; simp only [Bool.and_eq_true] at hok; exact hok.1)
  have hfree : ∀ q ∈ nbL W n f p, frB n f q = true := fun q hq => by
    obtain ⟨x, rfl, hx⟩ := mem_nbL.1 hq
    exact frB_mk ⟨by omega, by have := hx.lt hs (by omega); omega, by simpa using hx.free hs (by simpa using hfp.2.2)⟩
  have hno0 : ∀ e, Dq W n f R J t T k (p : Int) e → k + 1 ≤ e := fun e he => by
    obtain ⟨h1, h2, h3, h4⟩ := he
    rcases Nat.lt_or_ge k e with h | h
    · exact h
    · exfalso
      have : e = k := by omega
      subst this
      rw [Nat.sub_self] at h4
      simp only [cnB, beq_iff_eq] at h4
      exact hnow ⟨h4, fun k' h5 h6 => h3 k' (by omega) h6⟩
  refine ⟨?_, lsK_top, fun h => (by rw [hok] at h; cases h), fun _ e he => ?_, fun hd => ?_⟩
  · rcases lsK_is (R := R) (J := J) (T := T) (k := k) (c := (p : Int)) (l := nbL W n f p) (D := D) (m := (nbL W n f p).length) with h | ⟨j, h1, h2, h3⟩
    · omega
    · have := (hD _ (mem_gl.2 ⟨j, h1, rfl⟩)).lo
      omega
  · have hge := hno0 e he
    obtain ⟨h1, h2, h3, h4⟩ := he
    rw [show e - k = (e - (k + 1)) + 1 by omega] at h4
    simp only [cnB, List.any_eq_true, Bool.and_eq_true, Int.toNat_natCast] at h4
    obtain ⟨q, hq, hn, hc⟩ := h4
    rw [nh_sw hu (by omega)] at hn
    simp only [Bool.and_eq_true, Bool.not_eq_true'] at hn
    have hokq : okC n f R J (k + 1) q = true := by unfold okC; rw [hfree q hq, hn.1]; rfl
    have := (hD q hq).least hokq e ⟨hge, h2, h3, hc⟩
    obtain ⟨j, hj, e9⟩ := mem_gl.1 hq
    have h9 := lsK_le (R := R) (J := J) (T := T) (k := k) (c := (p : Int)) (l := nbL W n f p) (D := D) hj (by rw [e9]; exact hn.2)
    rw [e9] at h9
    omega
  · rcases lsK_is (R := R) (J := J) (T := T) (k := k) (c := (p : Int)) (l := nbL W n f p) (D := D) (m := (nbL W n f p).length) with h | ⟨j, h1, h2, h3⟩
    · omega
    · have hq : gl (nbL W n f p) j ∈ nbL W n f p := mem_gl.2 ⟨j, h1, rfl⟩
      have hDq := hD _ hq
      rw [h3] at hd
      obtain ⟨e, he, g1, g2, g3, g4⟩ := hDq.got hd
      have hokq := hDq.ok hd
      refine ⟨e, by rw [h3]; exact he, by omega, g2, g3, ?_⟩
      rw [show e - k = (e - (k + 1)) + 1 by omega]
      simp only [cnB, List.any_eq_true, Bool.and_eq_true, Int.toNat_natCast]
      refine ⟨_, hq, ?_, g4⟩
      rw [nh_sw hu (by omega), h2]
      unfold okC at hokq
      simp only [Bool.and_eq_true] at hokq
      rw [hokq.2]; rfl
/-- the first way on that is due in time is the one to go -/
theorem find_due (hu : Uq R T J) (hs : sizedB W n = true) {D : Nat → Int → Int} (hD : ∀ k, k ≤ T + 1 → ∀ q, 0 ≤ q → q < (n : Int) → DueIs W n f R J t T k q (D k q)) {k p e : Nat} (hp : p < n) (hfp : f p = 0) (hk : k < e) (he : e ≤ T) (hDk : D k (p : Int) = (e : Int)) :
    ∀ q ∈ nbL W n f p, (decide (D (k + 1) q = (e : Int)) && !swB R T J (k + 1) (p : Int) q) = (cnB W n f R J t (e - (k + 1)) (k + 1) q && nhB R (k + 1) (p : Int) q J) := by
  intro q hq
  obtain ⟨x, rfl, hx⟩ := mem_nbL.1 hq
  have hxn := hx.lt hs hp
  have hfx : frB n f (x : Int) = true := frB_mk ⟨by omega, by omega, by simpa using hx.free hs hfp⟩
  have h0 := hD k (by omega) (p : Int) (by omega) (by omega)
  have h1 := hD (k + 1) (by omega) (x : Int) (by omega) (by omega)
  obtain ⟨e', he', g1, g2, g3, g4⟩ := h0.got (by rw [hDk]; omega)
  have hee : e' = e := by omega
  subst hee
  have hok0 := h0.ok (by rw [hDk]; omega)
  rw [nh_sw hu (by omega), Bool.eq_iff_iff]
  simp only [Bool.and_eq_true, Bool.not_eq_true', decide_eq_true_eq]
  constructor
  · rintro ⟨a, b⟩
    obtain ⟨e2, q1, q2, q3, q4, q5⟩ := h1.got (by rw [a]; omega)
    have : e2 = e' := by omega
    subst this
    have hok := h1.ok (by rw [a]; omega)
    unfold okC at hok
    simp only [Bool.and_eq_true] at hok
    exact ⟨q5, hok.2, b⟩
  · rintro ⟨a, b, c⟩
    refine ⟨?_, c⟩
    have hok : okC n f R J (k + 1) (x : Int) = true := by unfold okC; rw [hfx, b]; rfl
    have hle := h1.least hok e' ⟨by omega, g2, g3, a⟩
    rcases Int.lt_or_eq_of_le hle with hlt | heq
    · exfalso
      obtain ⟨e2, q1, q2, q3, q4, q5⟩ := h1.got (by omega)
      have := h0.least hok0 e2 ⟨by omega, q3, q4, by
        rw [show e2 - k = (e2 - (k + 1)) + 1 by omega]
        simp only [cnB, List.any_eq_true, Bool.and_eq_true, Int.toNat_natCast]
        refine ⟨(x : Int), hq, ?_, q5⟩
        rw [nh_sw hu (by omega), b, c]; rfl⟩
      omega
    · exact heq
/-- at the end one stays -/
theorem find_stay {D : Nat → Int → Int} (hD : ∀ k, k ≤ T + 1 → ∀ q, 0 ≤ q → q < (n : Int) → DueIs W n f R J t T k q (D k q)) {k : Nat} (ht : frB n f t = true) (hk : k + 1 ≤ T) (ha : ∀ k', k + 1 ≤ k' → k' ≤ T → nhB R k' t t J = true) {q : Int} (hq0 : 0 ≤ q) (hqn : q < (n : Int)) :
    (decide (D (k + 1) q = ((k + 1 : Nat) : Int)) && !swB R T J (k + 1) t q) = decide (q = t) := by
  have h1 := hD (k + 1) (by omega) q hq0 hqn
  rw [Bool.eq_iff_iff]
  simp only [Bool.and_eq_true, Bool.not_eq_true', decide_eq_true_eq]
  constructor
  · rintro ⟨a, b⟩
    exact (due_now h1 a hk).1
  · intro e
    subst e
    refine ⟨due_stay h1 ht hk ha, ?_⟩
    have h2 := ha (k + 1) (Nat.le_refl _) hk
    cases e : swB R T J (k + 1) q q with
    | false => rfl
    | true =>
      exfalso
      unfold swB at e
      simp only [Bool.and_eq_true] at e
      have := mR_some (R := R) (J := J) (T := T) hk q
      rw [h2] at this
      rw [this] at e
      simp at e
/-- from which tick on one may stay -/
theorem sy_ex (R : Nat → Nat → Int) (J : Nat) (t : Int) (T : Nat) : ∃ st, Sy R J t T st := by
  have key : ∀ d, d ≤ T + 1 → ∃ st, T + 1 - d ≤ st ∧ st ≤ T + 1 ∧ (∀ k, st ≤ k → k ≤ T → nhB R k t t J = true) ∧ (T + 1 - d < st → nhB R (st - 1) t t J = false) := by
    intro d
    induction d with
    | zero => intro _; exact ⟨T + 1, by omega, by omega, fun k h1 h2 => by omega, fun h => by omega⟩
    | succ d ih =>
      intro hd
      obtain ⟨st, h1, h2, h3, h4⟩ := ih (by omega)
      rcases Nat.lt_or_ge (T + 1 - d) st with h | h
      · exact ⟨st, by omega, h2, h3, fun _ => h4 h⟩
      · have e : st = T + 1 - d := by omega
        cases hn : nhB R (st - 1) t t J with
        | true => exact ⟨st - 1, by omega, by omega, fun k h5 h6 => by
            by_cases e2 : k = st - 1
            · subst e2; exact hn
            · exact h3 k (by omega) h6, fun h5 => by omega⟩
        | false => exact ⟨st, by omega, h2, h3, fun _ => hn⟩
  obtain ⟨st, h1, h2, h3, h4⟩ := key (T + 1) (Nat.le_refl _)
  exact ⟨st, h2, h3, fun h => h4 (by omega)⟩
/-- where one is never due there is no path -/
theorem due_none {D0 : Int} (h : DueIs W n f R J t T 0 s D0) (hd : D0 = (T : Int) + 1) (hf : frB n f s = true) (P : Nat → Int) : ¬ Vp W n f R J s t T P := by
  obtain ⟨st, hsy⟩ := sy_ex R J t T
  refine none_of hsy ?_ P
  cases e : nhB R 0 s s J with
  | false => exact .inl rfl
  | true =>
    refine .inr fun e' h1 h2 => ?_
    cases e2 : cnB W n f R J t e' 0 s with
    | false => rfl
    | true =>
      have hok : okC n f R J 0 s = true := by unfold okC; rw [hf, e]; rfl
      have := h.least hok e' ⟨by omega, h2, fun k' h5 h6 => hsy.all k' (by omega) h6, by rw [Nat.sub_zero]; exact e2⟩
      omega
/-- the path that was read off is the best one -/
theorem due_best (hs : sizedB W n = true) {D0 : Int} {e : Nat} {P : Nat → Int} (h : DueIs W n f R J t T 0 s D0) (hd : D0 = (e : Int)) (he : e ≤ T) (ht : frB n f t = true) (hg : Gd W n f R J s t e P e) (hP : ∀ k, e ≤ k → k ≤ T → P k = t) : Bp W n f R J s t T P := by
  obtain ⟨st, hsy⟩ := sy_ex R J t T
  have hok := h.ok (by omega)
  obtain ⟨e', he', g1, g2, g3, g4⟩ := h.got (by omega)
  have : e' = e := by omega
  subst this
  have hst : st ≤ e' := by
    rcases Nat.lt_or_ge e' st with h9 | h9
    · exfalso
      have h8 := hsy.no (by omega)
      have h7 := g3 (st - 1) (by omega) (by have := hsy.le; omega)
      rw [h8] at h7; cases h7
    · exact h9
  have h00 : nhB R 0 s s J = true := by unfold okC at hok; simp only [Bool.and_eq_true] at hok; exact hok.2
  refine best_of hs (frB_t ht).1 hsy hst he h00 (fun e2 h1 h2 => ?_) hg hP
  cases e3 : cnB W n f R J t e2 0 s with
  | false => rfl
  | true =>
    have := h.least hok e2 ⟨by omega, by omega, fun k' h5 h6 => hsy.all k' (by omega) h6, by rw [Nat.sub_zero]; exact e3⟩
    omega
end
/-- best paths are never at one cell -/
theorem Bests.uq {W : Int} {n : Nat} {f g : Nat → Int} {R : Nat → Nat → Int} {T i : Nat} (h : Bests W n f g R T i) : Uq R T i := by
  have key : ∀ a b k, a < b → b < i → k ≤ T → R a k ≠ R b k := fun a b k hab hb hk e => by
    have v := (h b hb).1
    cases k with
    | zero =>
      have := nhB_iff.1 v.beg0 a hab
      rw [← v.beg] at this
      simp [hitB, e] at this
    | succ k =>
      have := nhB_iff.1 (v.free k (by omega)) a hab
      simp [hitB, e] at this
  intro a b k ha hb hk e
  rcases Nat.lt_trichotomy a b with h1 | h1 | h1
  · exact absurd e (key a b k h1 hb hk)
  · exact h1
  · exact absurd e.symm (key b a k h1 ha hk)
end Go.Proofs.YtbndhhjgjalecaaDoor
