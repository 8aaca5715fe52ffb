/- Numbers alone: dues, lowered round by round; that no round behind as many as there are tasks is the first that lowers none. -/
import Derived.Test.YtjmdghkhapajiaaAsM
namespace Go.Proofs.Ytjmdghkhapajiaa
open Go.RowKit
/-- as low as task b asks of robot i's own one -/
def moS (F : Nat → Nat → Int) (g : Nat → Int) (i b : Nat) (D : Nat → Int) : Int := F i b + D b - F i (g i).toNat
def loB (F : Nat → Nat → Int) (g : Nat → Int) (i b : Nat) (D : Nat → Int) : Bool := decide (moS F g i b D < D (g i).toNat)
def lwD (F : Nat → Nat → Int) (g : Nat → Int) (i b : Nat) (D : Nat → Int) : Nat → Int := if loB F g i b D = true then put D (g i).toNat (moS F g i b D) else D
/-- robot i's row, up to task b -/
def rowD (F : Nat → Nat → Int) (g : Nat → Int) (i : Nat) (D : Nat → Int) : Nat → Nat → Int
  | 0 => D
  | b + 1 => lwD F g i b (rowD F g i D b)
def rowQ (F : Nat → Nat → Int) (g : Nat → Int) (i : Nat) (D : Nat → Int) (q : Bool) : Nat → Bool
  | 0 => q
  | b + 1 => rowQ F g i D q b || loB F g i b (rowD F g i D b)
/-- a round, up to robot i -/
def rndD (F : Nat → Nat → Int) (g : Nat → Int) (n : Nat) (D : Nat → Int) : Nat → Nat → Int
  | 0 => D
  | i + 1 => rowD F g i (rndD F g n D i) n
def rndQ (F : Nat → Nat → Int) (g : Nat → Int) (n : Nat) (D : Nat → Int) : Nat → Bool
  | 0 => false
  | i + 1 => rowQ F g i (rndD F g n D i) (rndQ F g n D i) n
def duD (F : Nat → Nat → Int) (g : Nat → Int) (n : Nat) : Nat → Nat → Int
  | 0 => fun _ => 0
  | r + 1 => rndD F g n (duD F g n r) n
/-- does round r lower any -/
def duQ (F : Nat → Nat → Int) (g : Nat → Int) (n r : Nat) : Bool := rndQ F g n (duD F g n r) n
/-- a bound on the dues -/
def Bd (n : Nat) (D : Nat → Int) (L : Int) : Prop := ∀ x, x < n → -L ≤ D x ∧ D x ≤ 0
section
variable {n m : Nat} {K : Nat → Nat} {F : Nat → Nat → Int} {g : Nat → Int}
theorem lwD_bd (ga : GA n m K F g) {i b : Nat} (hi : i < n) (hb : b < n) {D : Nat → Int} {L : Int} (h : Bd n D L) : Bd n (lwD F g i b D) (L + 100000) := by
  intro x hx
  have h1 := h x hx
  unfold lwD
  split
  · rename_i e
    have e := of_decide_eq_true e
    unfold put
    split
    · have hg := ga.bd i hi
      have h2 := h (g i).toNat (by omega)
      have h3 := h b hb
      have h4 := ga.gp.bd i b hi hb
      have h5 := ga.gp.bd i (g i).toNat hi (by omega)
      unfold moS at e ⊢
      omega
    · omega
  · omega
theorem rowD_bd (ga : GA n m K F g) {i : Nat} (hi : i < n) {D : Nat → Int} {L : Int} (h : Bd n D L) : ∀ b, b ≤ n → Bd n (rowD F g i D b) (L + 100000 * (b : Int))
  | 0, _ => by simpa [rowD] using h
  | b + 1, hb => by
    have k := lwD_bd ga hi (b := b) (by omega) (rowD_bd ga hi h b (by omega))
    intro x hx
    have := k x hx
    unfold rowD
    omega
theorem rndD_bd (ga : GA n m K F g) {D : Nat → Int} {L : Int} (h : Bd n D L) : ∀ i, i ≤ n → Bd n (rndD F g n D i) (L + 600000 * (i : Int))
  | 0, _ => by simpa [rndD] using h
  | i + 1, hi => by
    have k := rowD_bd ga (i := i) (by omega) (rndD_bd ga h i (by omega)) n (Nat.le_refl _)
    have h6 := ga.gp.hi
    intro x hx
    have := k x hx
    unfold rndD
    omega
theorem duD_bd (ga : GA n m K F g) : ∀ r, r ≤ n + 1 → Bd n (duD F g n r) (3600000 * (r : Int))
  | 0, _ => by intro x _; simp [duD]
  | r + 1, hr => by
    have k := rndD_bd ga (duD_bd ga r (by omega)) n (Nat.le_refl _)
    have h6 := ga.gp.hi
    intro x hx
    have := k x hx
    unfold duD
    omega
/-- what nobody would rather lower -/
def Fea (n : Nat) (F : Nat → Nat → Int) (g : Nat → Int) (P : Nat → Int) : Prop := ∀ i b, i < n → b < n → P (g i).toNat ≤ F i b + P b - F i (g i).toNat
theorem lwD_le (i b : Nat) (D : Nat → Int) (x : Nat) : lwD F g i b D x ≤ D x := by
  unfold lwD
  split
  · rename_i e
    have e := of_decide_eq_true e
    unfold put
    split
    · rename_i c; subst c; omega
    · exact Int.le_refl _
  · exact Int.le_refl _
theorem lwD_ge {P : Nat → Int} (hP : Fea n F g P) {i b : Nat} (hi : i < n) (hb : b < n) {D : Nat → Int} (h : ∀ x, x < n → P x ≤ D x) : ∀ x, x < n → P x ≤ lwD F g i b D x := by
  intro x hx
  unfold lwD
  split
  · unfold put
    split
    · rename_i c; subst c
      have h1 := hP i b hi hb
      have h2 := h b hb
      unfold moS; omega
    · exact h x hx
  · exact h x hx
theorem rowD_le (i : Nat) (D : Nat → Int) (x : Nat) : ∀ b, rowD F g i D b x ≤ D x
  | 0 => Int.le_refl _
  | b + 1 => Int.le_trans (lwD_le i b _ x) (rowD_le i D x b)
theorem rowD_ge {P : Nat → Int} (hP : Fea n F g P) {i : Nat} (hi : i < n) {D : Nat → Int} (h : ∀ x, x < n → P x ≤ D x) : ∀ b, b ≤ n → ∀ x, x < n → P x ≤ rowD F g i D b x
  | 0, _ => h
  | b + 1, hb => lwD_ge hP hi (by omega) (rowD_ge hP hi h b (by omega))
theorem rndD_le (D : Nat → Int) (x : Nat) : ∀ i, rndD F g n D i x ≤ D x
  | 0 => Int.le_refl _
  | i + 1 => Int.le_trans (rowD_le i _ x n) (rndD_le D x i)
theorem rndD_ge {P : Nat → Int} (hP : Fea n F g P) {D : Nat → Int} (h : ∀ x, x < n → P x ≤ D x) : ∀ i, i ≤ n → ∀ x, x < n → P x ≤ rndD F g n D i x
  | 0, _ => h
  | i + 1, hi => rowD_ge hP (by omega) (rndD_ge hP h i (by omega)) n (Nat.le_refl _)
theorem duD_mono (x : Nat) : ∀ r s, r ≤ s → duD F g n s x ≤ duD F g n r x := by
  intro r s h
  induction s with
  | zero => have : r = 0 := by omega
            subst this; exact Int.le_refl _
  | succ s ih =>
    by_cases c : r = s + 1
    · subst c; exact Int.le_refl _
    · exact Int.le_trans (rndD_le _ x n) (ih (by omega))
theorem duD_ge {P : Nat → Int} (hP : Fea n F g P) {r : Nat} (h : ∀ x, x < n → P x ≤ duD F g n r x) : ∀ s, r ≤ s → ∀ x, x < n → P x ≤ duD F g n s x := by
  intro s hs
  induction s with
  | zero => have : r = 0 := by omega
            subst this; exact h
  | succ s ih =>
    by_cases c : r = s + 1
    · subst c; exact h
    · exact rndD_ge hP (ih (by omega)) n (Nat.le_refl _)
/-- what is as low as all ask for, and no lower than it was, behind a step at the same place -/
theorem rowQ_f {i : Nat} {D : Nat → Int} {q : Bool} : ∀ {b}, rowQ F g i D q b = false → q = false ∧ rowD F g i D b = D ∧ ∀ c, c < b → loB F g i c D = false
  | 0, h => ⟨h, rfl, fun c hc => by omega⟩
  | b + 1, h => by
    unfold rowQ at h
    simp only [Bool.or_eq_false_iff] at h
    obtain ⟨h1, h2, h3⟩ := rowQ_f h.1
    rw [h2] at h
    refine ⟨h1, ?_, fun c hc => ?_⟩
    · unfold rowD lwD; rw [h2, h.2]; rfl
    · by_cases e : c = b
      · subst e; exact h.2
      · exact h3 c (by omega)
theorem rndQ_f {D : Nat → Int} : ∀ {i}, rndQ F g n D i = false → rndD F g n D i = D ∧ ∀ j c, j < i → c < n → loB F g j c D = false
  | 0, _ => ⟨rfl, fun j c hj => by omega⟩
  | i + 1, h => by
    unfold rndQ at h
    obtain ⟨h1, h2, h3⟩ := rowQ_f h
    obtain ⟨h4, h5⟩ := rndQ_f h1
    rw [h4] at h2 h3
    refine ⟨by unfold rndD; rw [h4]; exact h2, fun j c hj hc => ?_⟩
    by_cases e : j = i
    · subst e; exact h3 c hc
    · exact h5 j c (by omega) hc
theorem fea_of {D : Nat → Int} (h : rndQ F g n D n = false) : Fea n F g D := fun i b hi hb => by
  have := of_decide_eq_false ((rndQ_f h).2 i b hi hb)
  unfold moS at this; omega
theorem rowQ_not {i : Nat} {D : Nat → Int} : ∀ {b}, (∀ c, c < b → loB F g i c D = false) → rowQ F g i D false b = false ∧ rowD F g i D b = D
  | 0, _ => ⟨rfl, rfl⟩
  | b + 1, h => by
    obtain ⟨h1, h2⟩ := rowQ_not (b := b) fun c hc => h c (by omega)
    refine ⟨by unfold rowQ; rw [h1, h2, h b (by omega)]; rfl, by unfold rowD lwD; rw [h2, h b (by omega)]; rfl⟩
theorem rndQ_not {D : Nat → Int} (h : Fea n F g D) : ∀ {i}, i ≤ n → rndQ F g n D i = false ∧ rndD F g n D i = D
  | 0, _ => ⟨rfl, rfl⟩
  | i + 1, hi => by
    obtain ⟨h1, h2⟩ := rndQ_not h (i := i) (by omega)
    have k : ∀ c, c < n → loB F g i c D = false := fun c hc => decide_eq_false (by have := h i c (by omega) hc; unfold moS; omega)
    obtain ⟨h3, h4⟩ := rowQ_not k
    refine ⟨by unfold rndQ; rw [h1, h2]; exact h3, by unfold rndD; rw [h2]; exact h4⟩
/-- a step makes its own task as low as b's due asks for -/
theorem rowD_hit {i : Nat} (D : Nat → Int) : ∀ {k b : Nat}, b < k → ∃ D1 : Nat → Int, (∀ x, D1 x ≤ D x) ∧ rowD F g i D k (g i).toNat ≤ moS F g i b D1
  | 0, b, h => by omega
  | k + 1, b, h => by
    by_cases e : b = k
    · subst e
      refine ⟨rowD F g i D b, fun x => rowD_le i D x b, ?_⟩
      show lwD F g i b (rowD F g i D b) (g i).toNat ≤ _
      unfold lwD
      split
      · unfold put; rw [if_pos rfl]; exact Int.le_refl _
      · rename_i c
        have := of_decide_eq_false (by simpa using c : loB F g i b (rowD F g i D b) = false)
        omega
    · obtain ⟨D1, h1, h2⟩ := rowD_hit D (k := k) (b := b) (by omega)
      exact ⟨D1, h1, Int.le_trans (lwD_le i k _ _) h2⟩
theorem rndD_hit (D : Nat → Int) {b : Nat} (hb : b < n) {i : Nat} : ∀ {k : Nat}, i < k → ∃ D1 : Nat → Int, (∀ x, D1 x ≤ D x) ∧ rndD F g n D k (g i).toNat ≤ moS F g i b D1
  | 0, h => by omega
  | k + 1, h => by
    by_cases e : i = k
    · subst e
      obtain ⟨D1, h1, h2⟩ := rowD_hit (F := F) (g := g) (i := i) (rndD F g n D i) (k := n) hb
      exact ⟨D1, fun x => Int.le_trans (h1 x) (rndD_le D x i), h2⟩
    · obtain ⟨D1, h1, h2⟩ := rndD_hit D hb (i := i) (k := k) (by omega)
      exact ⟨D1, h1, Int.le_trans (rowD_le k _ _ n) h2⟩
end
/-- how many of the first k are so -/
def cnt (p : Nat → Bool) : Nat → Nat
  | 0 => 0
  | k + 1 => cnt p k + (if p k = true then 1 else 0)
theorem cnt_le (p : Nat → Bool) : ∀ k, cnt p k ≤ k
  | 0 => Nat.le_refl _
  | k + 1 => by have := cnt_le p k; unfold cnt; split <;> omega
theorem cnt_all {p : Nat → Bool} : ∀ {k}, cnt p k = k → ∀ x, x < k → p x = true
  | 0, _, x, h => by omega
  | k + 1, h, x, hx => by
    have h1 := cnt_le p k
    unfold cnt at h
    split at h
    · rename_i e
      by_cases c : x = k
      · subst c; exact e
      · exact cnt_all (k := k) (by omega) x (by omega)
    · omega
theorem cnt_mono {p q : Nat → Bool} (h : ∀ x, p x = true → q x = true) : ∀ k, cnt p k ≤ cnt q k
  | 0 => Nat.le_refl _
  | k + 1 => by
    have := cnt_mono h k
    unfold cnt
    by_cases e : p k = true
    · rw [if_pos e, if_pos (h k e)]; omega
    · rw [if_neg e]; split <;> omega
theorem cnt_lt {p q : Nat → Bool} (h : ∀ x, p x = true → q x = true) {y : Nat} (hy : p y = false) (hy2 : q y = true) : ∀ {k}, y < k → cnt p k < cnt q k
  | 0, hk => by omega
  | k + 1, hk => by
    unfold cnt
    by_cases c : y = k
    · subst c
      have := cnt_mono h y
      rw [hy2, hy]; simp; omega
    · have := cnt_lt h hy hy2 (k := k) (by omega)
      by_cases e : p k = true
      · rw [if_pos e, if_pos (h k e)]; omega
      · rw [if_neg e]; split <;> omega
theorem cnt_pos {p : Nat → Bool} {y : Nat} (hy : p y = true) : ∀ {k}, y < k → 1 ≤ cnt p k
  | 0, hk => by omega
  | k + 1, hk => by
    unfold cnt
    by_cases c : y = k
    · subst c; rw [if_pos hy]; omega
    · have := cnt_pos hy (k := k) (by omega); omega
theorem not_all {P : Nat → Prop} [DecidablePred P] : ∀ {n}, (¬ ∀ x, x < n → P x) → ∃ x, x < n ∧ ¬ P x
  | 0, h => absurd (fun x hx => by omega) h
  | n + 1, h => by
    by_cases c : P n
    · have : ¬ ∀ x, x < n → P x := fun k => h fun x hx => by
        by_cases e : x = n
        · subst e; exact c
        · exact k x (by omega)
      obtain ⟨x, hx, hp⟩ := not_all this
      exact ⟨x, by omega, hp⟩
    · exact ⟨n, by omega, c⟩
section
variable {n m : Nat} {K : Nat → Nat} {F : Nat → Nat → Int} {g : Nat → Int}
/-- where the end is reached already -/
def eqP (F : Nat → Nat → Int) (g : Nat → Int) (n N r : Nat) (x : Nat) : Bool := decide (duD F g n r x = duD F g n N x)
theorem eqP_mono {N r : Nat} (hr : r + 1 ≤ N) (x : Nat) (h : eqP F g n N r x = true) : eqP F g n N (r + 1) x = true := by
  have h := of_decide_eq_true h
  have h1 := duD_mono (F := F) (g := g) (n := n) x r (r + 1) (by omega)
  have h2 := duD_mono (F := F) (g := g) (n := n) x (r + 1) N hr
  exact decide_eq_true (by omega)
/-- where a round still misses the end somewhere, the next one reaches it at one task more -/
theorem eqP_more {N : Nat} (hg : ∀ i, i < n → (g i).toNat < n) (hf : Fea n F g (duD F g n N)) {r : Nat} (hr : r + 1 ≤ N) (hno : ¬ ∀ x, x < n → eqP F g n N r x = true) : ∃ y, y < n ∧ eqP F g n N r y = false ∧ eqP F g n N (r + 1) y = true := by
  obtain ⟨z, hz, hz2⟩ := not_all hno
  have hz3 : ¬ duD F g n r z = duD F g n N z := fun e => hz2 (decide_eq_true e)
  have hmon := fun x => duD_mono (F := F) (g := g) (n := n) x r N (by omega)
  obtain ⟨P, hP⟩ : ∃ P : Nat → Int, ∀ x, P x = if duD F g n r x = duD F g n N x then duD F g n N x else duD F g n N x + 1 := ⟨fun x => _, fun x => rfl⟩
  have hPr : ∀ x, x < n → P x ≤ duD F g n r x := fun x _ => by
    have := hmon x
    rw [hP x]; split <;> omega
  have hnf : ¬ Fea n F g P := fun hFe => by
    have := duD_ge hFe hPr N (by omega) z hz
    rw [hP z, if_neg hz3] at this
    omega
  have hex : ∃ i, i < n ∧ ¬ ∀ b, b < n → P (g i).toNat ≤ F i b + P b - F i (g i).toNat := by
    have : ¬ ∀ i, i < n → ∀ b, b < n → P (g i).toNat ≤ F i b + P b - F i (g i).toNat := fun k => hnf fun i b hi hb => k i hi b hb
    exact not_all this
  obtain ⟨i, hi, hi2⟩ := hex
  obtain ⟨b, hb, hb2⟩ := not_all hi2
  have h0 := hf i b hi hb
  have hPa := hP (g i).toNat
  have hPb := hP b
  by_cases ca : duD F g n r (g i).toNat = duD F g n N (g i).toNat
  · rw [if_pos ca] at hPa
    split at hPb <;> omega
  · rw [if_neg ca] at hPa
    by_cases cb : duD F g n r b = duD F g n N b
    · rw [if_pos cb] at hPb
      obtain ⟨D1, h1, h2⟩ := rndD_hit (F := F) (g := g) (duD F g n r) hb (i := i) (k := n) hi
      have h3 := h1 b
      have h4 := duD_mono (F := F) (g := g) (n := n) (g i).toNat (r + 1) N hr
      have h5 : duD F g n (r + 1) (g i).toNat ≤ moS F g i b D1 := h2
      unfold moS at h5
      exact ⟨(g i).toNat, hg i hi, decide_eq_false ca, decide_eq_true (by omega)⟩
    · rw [if_neg cb] at hPb; omega
theorem cnt_full {p : Nat → Bool} : ∀ {k}, (∀ x, x < k → p x = true) → cnt p k = k
  | 0, _ => rfl
  | k + 1, h => by unfold cnt; rw [cnt_full fun x hx => h x (by omega), if_pos (h k (by omega))]
theorem fea_cg {P R : Nat → Int} (hg : ∀ i, i < n → (g i).toNat < n) (h : Fea n F g P) (e : ∀ x, x < n → P x = R x) : Fea n F g R := fun i b hi hb => by
  rw [← e _ (hg i hi), ← e b hb]; exact h i b hi hb
/-- where a round behind as many as there are tasks lowers none, one of those lowers none -/
theorem du_end (ga : GA n m K F g) (h : duQ F g n n = false) : ∃ r, r < n ∧ duQ F g n r = false := by
  have hg : ∀ i, i < n → (g i).toNat < n := fun i hi => by have := ga.bd i hi; omega
  have h1 := ga.gp.lo
  have hf : Fea n F g (duD F g n n) := fea_of h
  have hS0 : ∃ x, x < n ∧ eqP F g n n 0 x = true := by
    by_cases c : ∀ x, x < n → ¬ duD F g n n x = 0
    · exfalso
      have hle := fun x => duD_mono (F := F) (g := g) (n := n) x 0 n (by omega)
      have hP : Fea n F g (fun x => duD F g n n x + 1) := fun i b hi hb => by
        have := hf i b hi hb
        show duD F g n n (g i).toNat + 1 ≤ F i b + (duD F g n n b + 1) - F i (g i).toNat
        omega
      have := duD_ge hP (r := 0) (fun x hx => by
        have h2 := hle x
        have h3 := c x hx
        have h4 : duD F g n 0 x = 0 := rfl
        show duD F g n n x + 1 ≤ duD F g n 0 x
        omega) n (by omega) 0 (by omega)
      have h5 : duD F g n n 0 + 1 ≤ duD F g n n 0 := this
      omega
    · obtain ⟨x, hx, hx2⟩ := not_all c
      refine ⟨x, hx, decide_eq_true ?_⟩
      have h4 : duD F g n 0 x = 0 := rfl
      omega
  have hcnt : ∀ r, r < n → r + 1 ≤ cnt (eqP F g n n r) n := by
    intro r
    induction r with
    | zero => intro _; obtain ⟨x, hx, hx2⟩ := hS0; exact cnt_pos hx2 hx
    | succ r ih =>
      intro hr
      have k := ih (by omega)
      by_cases c : ∀ x, x < n → eqP F g n n r x = true
      · rw [cnt_full fun x hx => eqP_mono (by omega) x (c x hx)]; omega
      · obtain ⟨y, hy, e1, e2⟩ := eqP_more hg hf (by omega) c
        have := cnt_lt (fun x => eqP_mono (F := F) (g := g) (n := n) (N := n) (r := r) (by omega) x) e1 e2 hy
        omega
  obtain ⟨k, rfl⟩ : ∃ k, n = k + 1 := ⟨n - 1, by omega⟩
  have hall := cnt_all (Nat.le_antisymm (cnt_le _ _) (hcnt k (by omega)))
  refine ⟨k, by omega, (rndQ_not (fea_cg hg hf fun x hx => (of_decide_eq_true (hall x hx)).symm) (Nat.le_refl _)).1⟩
end
end Go.Proofs.Ytjmdghkhapajiaa
