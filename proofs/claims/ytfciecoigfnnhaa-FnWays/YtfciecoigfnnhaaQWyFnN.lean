/- What FnWays asks, as numbers: the way that is told, ways that are drawn, and what is pulled straight. -/
import Derived.Test.YtfciecoigfnnhaaQWyFnM
namespace Go.Proofs.Ytfciecoigfnnhaa
open Go.RowKit

theorem kind_shift (W : Int) (n : Nat) (f g : Nat → Int) (s : Int) (k : Nat) : kindK W n f g s (k + 1) = (if stepV W n f (g 0) (g 1) = s then 1 else 0) + kindK W n f (fun i => g (i + 1)) s k := by
  induction k with
  | zero => simp [kindK]
  | succ k ih =>
    rw [kindK, ih, kindK]
    omega
theorem way_shift (W : Int) (n : Nat) (f g : Nat → Int) (k : Nat) : wayK W n f g (k + 1) = (decide (stepV W n f (g 0) (g 1) ≠ 0) && wayK W n f (fun i => g (i + 1)) k) := by
  induction k with
  | zero => simp [wayK]
  | succ k ih =>
    rw [wayK, ih, wayK, Bool.and_assoc]
theorem step_free {W : Int} {n : Nat} {f : Nat → Int} {a b : Int} (h : stepV W n f a b ≠ 0) : frB n f a = true ∧ frB n f b = true := by
  unfold stepV at h
  split at h
  · next hf => simpa using hf
  · exact absurd rfl h
theorem step_kind {W : Int} {n : Nat} {f : Nat → Int} {a b : Int} (h : stepV W n f a b ≠ 0) : stepV W n f a b = 1 ∨ stepV W n f a b = 2 := by
  rcases stepV_in W n f a b with q | q | q
  · exact absurd q h
  · exact .inl q
  · exact .inr q
theorem toNat_step (W : Int) (n : Nat) (f : Nat → Int) {a b : Int} (ha : 0 ≤ a) (hb : 0 ≤ b) : stN W n f a.toNat b.toNat = stepV W n f a b := by
  unfold stN
  rw [Int.toNat_of_nonneg ha, Int.toNat_of_nonneg hb]
/-- a list that is a way is one -/
theorem way_wy {W : Int} {n : Nat} {f g : Nat → Int} {k : Nat} (h : wayK W n f g k = true) (h0 : frB n f (g 0) = true) : Wy (stN W n f) (g k).toNat (g 0).toNat (kindK W n f g 1 k) (kindK W n f g 2 k) := by
  induction k generalizing g with
  | zero => exact Wy.nil
  | succ k ih =>
    rw [way_shift] at h
    simp only [Bool.and_eq_true, decide_eq_true_eq] at h
    obtain ⟨h1, h2⟩ := h
    have fr := step_free h1
    have w := ih (g := fun i => g (i + 1)) h2 fr.2
    have z0 := (frB_t fr.1).1
    have z1 := (frB_t fr.2).1
    have e := toNat_step W n f z0 z1
    rw [kind_shift, kind_shift]
    rcases step_kind h1 with q | q
    · have := Wy.str (i := (g 0).toNat) (by rw [e]; exact q) w
      rw [q]
      simpa [Int.add_comm] using this
    · have := Wy.sla (i := (g 0).toNat) (by rw [e]; exact q) w
      rw [q]
      simpa [Int.add_comm] using this
theorem way_last {W : Int} {n : Nat} {f g : Nat → Int} {k : Nat} (h : wayK W n f g k = true) (h0 : frB n f (g 0) = true) : frB n f (g k) = true := by
  cases k with
  | zero => exact h0
  | succ k =>
    unfold wayK at h
    simp only [Bool.and_eq_true, decide_eq_true_eq] at h
    exact (step_free h.2).2
theorem gl_cons (x : Int) (l : List Int) : (fun i => gl (x :: l) (i + 1)) = gl l := by
  funext i
  simp [gl]
/-- the list that is told is a way, of so many steps of both kinds -/
theorem ch_way {W : Int} {n y x : Nat} {f : Nat → Int} {A B : Nat → Int} {l : List Int} (hD : Dst (stN W n f) n y A B) (hA : A y = 0 ∧ B y = 0) (hc : Ch (stN W n f) n A B y x l) (hx : x < n) (h0 : 0 ≤ A x) :
    1 ≤ l.length ∧ gl l 0 = (x : Int) ∧ gl l (l.length - 1) = (y : Int) ∧ wayK W n f (gl l) (l.length - 1) = true ∧ kindK W n f (gl l) 1 (l.length - 1) = A x ∧ kindK W n f (gl l) 2 (l.length - 1) = B x := by
  induction hc with
  | stop => refine ⟨by simp, by simp [gl], by simp [gl], rfl, by rw [hA.1]; rfl, by rw [hA.2]; rfl⟩
  | @go i k l q hn _ ih =>
    have ho := okB_t.1 hn.2.1
    obtain ⟨i1, i2, i3, i4, i5, i6⟩ := ih hn.1 ho.2.1
    have hls := hD.less (stN_in W n f) hx h0 hn.1 hn.2.1
    obtain ⟨t, ht⟩ : ∃ t, l.length = t + 1 := ⟨l.length - 1, by omega⟩
    have e1 : ((i : Int) :: l).length - 1 = t + 1 := by simp [ht]
    have e0 : l.length - 1 = t := by omega
    rw [e0] at i3 i4 i5 i6
    have g0 : gl ((i : Int) :: l) 0 = (i : Int) := by simp [gl]
    have g1 : gl ((i : Int) :: l) 1 = (k : Int) := by rw [← i2]; simp [gl]
    have hst : stepV W n f (gl ((i : Int) :: l) 0) (gl ((i : Int) :: l) 1) = stN W n f i k := by rw [g0, g1]; rfl
    refine ⟨by simp, g0, ?_, ?_, ?_, ?_⟩
    · rw [e1, ← i3]; simp [gl]
    · rw [e1, way_shift, gl_cons, i4, hst]
      simpa using ho.1
    · rw [e1, kind_shift, gl_cons, i5, hst]
      have b1 := hD.bnd i hx h0
      have b2 := hD.bnd k hn.1 ho.2.1
      rcases stN_in W n f i k with q | q | q
      · exact absurd q ho.1
      · have e := ho.2.2
        rw [q, show wt 1 = 408 from rfl] at e
        have := ky_inj (a := A k + 1) (b := B k) (c := A i) (d := B i) (by omega) (by omega) (by unfold ky at *; omega)
        rw [q]; simp; omega
      · have e := ho.2.2
        rw [q, show wt 2 = 577 from rfl] at e
        have := ky_inj (a := A k) (b := B k + 1) (c := A i) (d := B i) (by omega) (by omega) (by unfold ky at *; omega)
        rw [q]; simp; omega
    · rw [e1, kind_shift, gl_cons, i6, hst]
      have b1 := hD.bnd i hx h0
      have b2 := hD.bnd k hn.1 ho.2.1
      rcases stN_in W n f i k with q | q | q
      · exact absurd q ho.1
      · have e := ho.2.2
        rw [q, show wt 1 = 408 from rfl] at e
        have := ky_inj (a := A k + 1) (b := B k) (c := A i) (d := B i) (by omega) (by omega) (by unfold ky at *; omega)
        rw [q]; simp; omega
      · have e := ho.2.2
        rw [q, show wt 2 = 577 from rfl] at e
        have := ky_inj (a := A k) (b := B k + 1) (c := A i) (d := B i) (by omega) (by omega) (by unfold ky at *; omega)
        rw [q]; simp; omega
theorem Dst.src {st : Nat → Nat → Int} {n y : Nat} {A B : Nat → Int} (h : Dst st n y A B) (hy : y < n) : A y = 0 ∧ B y = 0 := by
  have l := h.least y 0 0 hy Wy.nil
  have b := h.bnd y hy l.1
  have k := l.2
  unfold ky at k
  omega
theorem cntD_mono {D E : Nat → Bool} {n : Nat} (h : ∀ i, i < n → D i = true → E i = true) : cntD D n ≤ cntD E n := by
  induction n with
  | zero => simp [cntD]
  | succ n ih =>
    have := ih (fun i hi => h i (by omega))
    unfold cntD
    have hn := h n (by omega)
    by_cases e : D n = true
    · rw [if_pos e, if_pos (hn e)]; omega
    · rw [if_neg e]; omega
/-- so many cells cost fewer steps -/
theorem dst_count {st : Nat → Nat → Int} {n y : Nat} {A B : Nat → Int} (h : Dst st n y A B) (hy : y < n) (hin : ∀ i k, st i k = 0 ∨ st i k = 1 ∨ st i k = 2) (hlt : ∀ i k, st i k ≠ 0 → i < n ∧ k < n) (t : Nat) {i : Nat} (hi : i < n) (h0 : 0 ≤ A i) (ht : A i + B i = (t : Int)) :
    t ≤ cntD (fun c => decide (0 ≤ A c) && decide (A c + B c < (t : Int))) n := by
  induction t generalizing i with
  | zero => omega
  | succ t ih =>
    have hne : i ≠ y := by
      intro e
      subst e
      have := h.src hy
      omega
    obtain ⟨k, hk, ho⟩ := h.next hlt hi h0 hne
    have hl := h.less hin hi h0 hk ho
    have ho' := okB_t.1 ho
    have q := ih hk ho'.2.1 (by omega)
    have hd : (fun c => decide (0 ≤ A c) && decide (A c + B c < (t : Int))) k = false := by
      simp only [Bool.and_eq_false_iff, decide_eq_false_iff_not]; right; omega
    have hp := cntD_put (D := fun c => decide (0 ≤ A c) && decide (A c + B c < (t : Int))) (n := n) (j := k) hd
    rw [if_pos hk] at hp
    have hm := cntD_mono (n := n) (D := putD (fun c => decide (0 ≤ A c) && decide (A c + B c < (t : Int))) k) (E := fun c => decide (0 ≤ A c) && decide (A c + B c < ((t + 1 : Nat) : Int))) (fun c _ hc => by
      unfold putD at hc
      by_cases e : c = k
      · subst e
        simp only [Bool.and_eq_true, decide_eq_true_eq]
        exact ⟨ho'.2.1, by omega⟩
      · rw [if_neg e] at hc
        simp only [Bool.and_eq_true, decide_eq_true_eq] at hc ⊢
        exact ⟨hc.1, by omega⟩)
    omega
theorem dst_tight {st : Nat → Nat → Int} {n y : Nat} {A B : Nat → Int} (h : Dst st n y A B) (hy : y < n) (hin : ∀ i k, st i k = 0 ∨ st i k = 1 ∨ st i k = 2) (hlt : ∀ i k, st i k ≠ 0 → i < n ∧ k < n) {i : Nat} (hi : i < n) (h0 : 0 ≤ A i) : A i + B i + 1 ≤ (n : Int) := by
  have hb := h.bnd i hi h0
  obtain ⟨t, ht⟩ := Int.eq_ofNat_of_zero_le (show 0 ≤ A i + B i by omega)
  have q := dst_count h hy hin hlt t hi h0 ht
  have l := cntD_lt (D := fun c => decide (0 ≤ A c) && decide (A c + B c < (t : Int))) (j := i) (n := n) (by
    simp only [Bool.and_eq_false_iff, decide_eq_false_iff_not]; right; omega) hi
  omega
theorem ch_count {st : Nat → Nat → Int} {n y : Nat} {A B : Nat → Int} (h : Dst st n y A B) (hin : ∀ i k, st i k = 0 ∨ st i k = 1 ∨ st i k = 2) (hs : A y = 0 ∧ B y = 0) {i : Nat} {l : List Int} (hc : Ch st n A B y i l) (hi : i < n) (h0 : 0 ≤ A i) : (l.length : Int) = A i + B i + 1 := by
  induction hc with
  | stop => rw [hs.1, hs.2]; simp
  | @go i k l q hn _ ih =>
    have ho := okB_t.1 hn.2.1
    have := ih hn.1 ho.2.1
    have := h.less hin hi h0 hn.1 hn.2.1
    simp; omega
/-- what FnWays asks of the way that is told -/
theorem shrt_way {W : Int} {n : Nat} {f : Nat → Int} {p v : Int} {l : List Int} {s d : Int} (h : Shrt W n f p v l s d true) :
    wayQ W n f l.length (gl l) = true ∧ wayS W n f l.length (gl l) 1 = s ∧ wayS W n f l.length (gl l) 2 = d ∧ 1 ≤ l.length ∧ l.length ≤ 256 ∧ gl l 0 = p ∧ gl l (l.length - 1) = v ∧ 0 ≤ s ∧ 0 ≤ d ∧ s + d ≤ 255 := by
  rcases h with ⟨_, hc, x, y, A, B, hx, hy, hp, hv, hD, h0, es, ed, hC⟩ | ⟨e, _⟩
  · have hxn : x < n := by have := frB_t hp; omega
    have hyn : y < n := by have := frB_t hv; omega
    obtain ⟨i1, i2, i3, i4, i5, i6⟩ := ch_way hD (hD.src hyn) hC hxn h0
    have hb := hD.bnd x hxn h0
    have hl := ch_count hD (stN_in W n f) (hD.src hyn) hC hxn h0
    have ht := dst_tight hD hyn (stN_in W n f) (stN_lt W n f) hxn h0
    have hn := sized_le (celB_parts hc).1
    have hq : wayQ W n f l.length (gl l) = true := by
      simp only [wayQ, Bool.and_eq_true, decide_eq_true_eq]
      exact ⟨⟨⟨⟨hc, i1⟩, by omega⟩, by rw [i2, ← hx]; exact hp⟩, i4⟩
    refine ⟨hq, ?_, ?_, i1, by omega, by rw [i2, hx], by rw [i3, hy], by omega, by omega, by omega⟩
    · simp only [wayS, hq, if_true]; omega
    · simp only [wayS, hq, if_true]; omega
  · cases e
/-- whoever goes some way costs no less -/
theorem shrt_least {W : Int} {n : Nat} {f : Nat → Int} {l : List Int} {s d : Int} {q : Bool} {m : Nat} {g : Nat → Int} (h : Shrt W n f (g 0) (g (m - 1)) l s d q) (hw : wayQ W n f m g = true) :
    q = true ∧ ky s d ≤ ky (wayS W n f m g 1) (wayS W n f m g 2) := by
  have hw' := hw
  simp only [wayQ, Bool.and_eq_true, decide_eq_true_eq] at hw'
  obtain ⟨⟨⟨⟨hc, hm1⟩, hm2⟩, hf0⟩, hk⟩ := hw'
  have hwy := way_wy hk hf0
  have hfl := way_last hk hf0
  have z0 := (frB_t hf0).1
  have z1 := (frB_t hfl).1
  rcases h with ⟨e, _, x, y, A, B, hx, hy, hp, hv, hD, h0, es, ed, hC⟩ | ⟨_, _, _, _, hno⟩
  · have hxn : x < n := by have := frB_t hp; omega
    have e1 : (g 0).toNat = x := by omega
    have e2 : (g (m - 1)).toNat = y := by omega
    rw [e1, e2] at hwy
    have := (hD.least x _ _ hxn hwy).2
    refine ⟨e, ?_⟩
    simp only [wayS, hw, if_true]
    rw [es, ed]
    exact this
  · exact absurd ⟨hc, hf0, hfl, (g 0).toNat, (g (m - 1)).toNat, _, _, by omega, by omega, hwy⟩ hno
/-- are all legs of a list clear -/
def legsB (W : Int) (n : Nat) (f : Nat → Int) : List Int → Bool
  | a :: b :: l => clrB W n f a b && legsB W n f (b :: l)
  | _ => true
theorem legs_at {W : Int} {n : Nat} {f : Nat → Int} {l : List Int} (h : legsB W n f l = true) {i : Nat} (hi : i + 1 < l.length) : clrB W n f (gl l i) (gl l (i + 1)) = true := by
  induction l generalizing i with
  | nil => simp at hi
  | cons a l ih =>
    cases l with
    | nil => simp at hi
    | cons b l =>
      simp only [legsB, Bool.and_eq_true] at h
      cases i with
      | zero => simpa [gl] using h.1
      | succ i =>
        have := ih h.2 (i := i) (by simp at hi ⊢; omega)
        simpa [gl] using this
theorem lastC_clr {W : Int} {n : Nat} {f g : Nat → Int} {p k : Nat} (h : 0 < lastC W n f g p k) : clrB W n f (g p) (g (lastC W n f g p k)) = true := by
  induction k with
  | zero => simp [lastC] at h
  | succ k ih =>
    unfold lastC at h ⊢
    split
    · next e => exact e
    · next e => rw [if_neg e] at h; exact ih h
theorem pull_legs {W : Int} {n : Nat} {f g : Nat → Int} {m : Nat} (hl : legK W n f g (m - 1) = true) (t p : Nat) (ht : m - 1 - p ≤ t) (hp : p ≤ m - 1) :
    legsB W n f (g p :: pullK W n f g m t p) = true ∧ gl (g p :: pullK W n f g m t p) (pullK W n f g m t p).length = g (m - 1) := by
  induction t generalizing p with
  | zero =>
    have : p = m - 1 := by omega
    subst this
    simp [pullK, legsB, gl]
  | succ t ih =>
    unfold pullK
    by_cases h : p < m - 1
    · rw [if_pos h]
      have h1 := lastC_gt (k := m - 1) (legK_at hl h) h
      have h2 := lastC_le W n f g p (m - 1)
      have h3 := lastC_clr (W := W) (n := n) (f := f) (g := g) (p := p) (k := m - 1) (by omega)
      obtain ⟨i1, i2⟩ := ih (lastC W n f g p (m - 1)) (by omega) h2
      refine ⟨by simp only [legsB, Bool.and_eq_true]; exact ⟨h3, i1⟩, ?_⟩
      rw [← i2]
      simp [gl]
    · rw [if_neg h]
      have : p = m - 1 := by omega
      subst this
      simp [legsB, gl]
/-- what FnWays asks of a way pulled straight -/
theorem pull_way {W : Int} {n : Nat} {f g : Nat → Int} {m : Nat} (hw : wayQ W n f m g = true) :
    pullQ W n f m g = true ∧ 1 ≤ (pullL W n f m g).length ∧ (pullL W n f m g).length ≤ m ∧ gl (pullL W n f m g) 0 = g 0 ∧ gl (pullL W n f m g) ((pullL W n f m g).length - 1) = g (m - 1) ∧
    ∀ i, i + 1 < (pullL W n f m g).length → clrB W n f (gl (pullL W n f m g) i) (gl (pullL W n f m g) (i + 1)) = true := by
  simp only [wayQ, Bool.and_eq_true, decide_eq_true_eq] at hw
  obtain ⟨⟨⟨⟨hc, hm1⟩, hm2⟩, hf0⟩, hk⟩ := hw
  have hleg : ∀ k, wayK W n f g k = true → legK W n f g k = true := fun k => by
    induction k with
    | zero => intro _; rfl
    | succ k ih =>
      intro h
      unfold wayK at h
      simp only [Bool.and_eq_true, decide_eq_true_eq] at h
      unfold legK
      rw [ih h.1, step_clear h.2]
      rfl
  have hq : pullQ W n f m g = true := by
    simp only [pullQ, Bool.and_eq_true, decide_eq_true_eq]
    exact ⟨⟨⟨⟨hc, hm1⟩, hm2⟩, hf0⟩, hleg _ hk⟩
  obtain ⟨l1, l2⟩ := pull_legs (hleg _ hk) (m - 1) 0 (by omega) (by omega)
  have hlen := pullK_len W n f g m (m - 1) 0
  have e : pullL W n f m g = g 0 :: pullK W n f g m (m - 1) 0 := by simp [pullL, hq]
  rw [e]
  refine ⟨hq, by simp, by simp; omega, by simp [gl], ?_, fun i hi => legs_at l1 hi⟩
  rw [← l2]
  simp
end Go.Proofs.Ytfciecoigfnnhaa
