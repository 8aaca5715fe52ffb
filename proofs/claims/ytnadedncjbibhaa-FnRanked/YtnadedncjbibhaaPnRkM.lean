/- Who ranks higher goes first: no job takes longer than its answer time. -/
import Derived.Test.YtnadedncjbibhaaPnM
namespace Go.Proofs.Ytnadedncjbibhaa
/-- a play by rank, in numbers: of chore k at time t the jobs that are done and the ticks spent of the next one; who gets tick t -/
structure Sch (n : Nat) (N P f : Nat → Int) (D S : Nat → Nat → Int) (W : Nat → Int) (U : Nat) : Prop where
  n1 : ∀ k, k < n → 1 ≤ N k
  np : ∀ k, k < n → N k ≤ P k
  f0 : ∀ k, k < n → 0 ≤ f k
  d0 : ∀ k, k < n → D k 0 = 0
  s0 : ∀ k, k < n → S k 0 = 0
  go : ∀ k t, k < n → t < U → W t = (k : Int) → S k t + 1 < N k → D k (t + 1) = D k t ∧ S k (t + 1) = S k t + 1
  fin : ∀ k t, k < n → t < U → W t = (k : Int) → ¬ S k t + 1 < N k → D k (t + 1) = D k t + 1 ∧ S k (t + 1) = 0
  idle : ∀ k t, k < n → t < U → W t ≠ (k : Int) → D k (t + 1) = D k t ∧ S k (t + 1) = S k t
  came : ∀ k t, k < n → t < U → W t = (k : Int) → f k + D k t * P k ≤ (t : Int)
  top : ∀ k t, k < n → t < U → f k + D k t * P k ≤ (t : Int) → 0 ≤ W t ∧ W t ≤ (k : Int)
section
variable {n : Nat} {N P f : Nat → Int} {D S : Nat → Nat → Int} {W : Nat → Int} {U : Nat}
/-- what stays true of one chore -/
structure One (N P f : Int) (D S : Int) (t : Nat) : Prop where
  d : 0 ≤ D
  s : 0 ≤ S
  sn : S < N
  sp : 0 < S → f + D * P < (t : Int)
  dp : 1 ≤ D → f + D * P - P < (t : Int)
theorem Sch.one (h : Sch n N P f D S W U) {k : Nat} (hk : k < n) : ∀ t, t ≤ U → One (N k) (P k) (f k) (D k t) (S k t) t
  | 0, _ => by
    have a := h.n1 k hk
    rw [h.d0 k hk, h.s0 k hk]
    exact ⟨by omega, by omega, by omega, fun e => by omega, fun e => by omega⟩
  | t + 1, ht => by
    have ih := h.one hk t (by omega)
    have a := h.n1 k hk
    by_cases e : W t = (k : Int)
    · have c := h.came k t hk (by omega) e
      by_cases e2 : S k t + 1 < N k
      · obtain ⟨x, y⟩ := h.go k t hk (by omega) e e2
        rw [x, y]
        have := ih.s
        exact ⟨ih.d, by omega, e2, fun _ => by omega, fun q => by have := ih.dp q; omega⟩
      · obtain ⟨x, y⟩ := h.fin k t hk (by omega) e e2
        rw [x, y]
        have := ih.d
        exact ⟨by omega, by omega, by omega, fun q => by omega, fun _ => by rw [Int.add_mul, Int.one_mul]; omega⟩
    · obtain ⟨x, y⟩ := h.idle k t hk (by omega) e
      rw [x, y]
      exact ⟨ih.d, ih.s, ih.sn, fun q => by have := ih.sp q; omega, fun q => by have := ih.dp q; omega⟩
/-- ticks that a chore has had -/
def gotK (N : Nat → Int) (D S : Nat → Nat → Int) (k t : Nat) : Int := D k t * N k + S k t
theorem Sch.got_on (h : Sch n N P f D S W U) {k t : Nat} (hk : k < n) (ht : t < U) (e : W t = (k : Int)) : gotK N D S k (t + 1) = gotK N D S k t + 1 := by
  have o := h.one hk t (by omega)
  unfold gotK
  by_cases e2 : S k t + 1 < N k
  · obtain ⟨x, y⟩ := h.go k t hk ht e e2
    rw [x, y]; omega
  · obtain ⟨x, y⟩ := h.fin k t hk ht e e2
    have := o.sn
    rw [x, y, Int.add_mul, Int.one_mul]; omega
theorem Sch.got_off (h : Sch n N P f D S W U) {k t : Nat} (hk : k < n) (ht : t < U) (e : W t ≠ (k : Int)) : gotK N D S k (t + 1) = gotK N D S k t := by
  obtain ⟨x, y⟩ := h.idle k t hk ht e
  unfold gotK
  rw [x, y]
theorem Sch.dn_up (h : Sch n N P f D S W U) {k : Nat} (hk : k < n) {t : Nat} : ∀ m, t + m ≤ U → D k t ≤ D k (t + m)
  | 0, _ => Int.le_refl _
  | m + 1, hm => by
    have ih := h.dn_up hk (t := t) m (by omega)
    have hs : D k (t + m) ≤ D k (t + (m + 1)) := by
      by_cases e : W (t + m) = (k : Int)
      · by_cases e2 : S k (t + m) + 1 < N k
        · have := (h.go k (t + m) hk (by omega) e e2).1; rw [← Nat.add_assoc]; omega
        · have := (h.fin k (t + m) hk (by omega) e e2).1; rw [← Nat.add_assoc]; omega
      · have := (h.idle k (t + m) hk (by omega) e).1; rw [← Nat.add_assoc]; omega
    omega
theorem Sch.dn_le (h : Sch n N P f D S W U) {k : Nat} (hk : k < n) {t u : Nat} (htu : t ≤ u) (hu : u ≤ U) : D k t ≤ D k u := by
  have := h.dn_up hk (t := t) (u - t) (by omega)
  rwa [show t + (u - t) = u by omega] at this
theorem Sch.cm_le (h : Sch n N P f D S W U) {k : Nat} (hk : k < n) {t u : Nat} (htu : t ≤ u) (hu : u ≤ U) : f k + D k t * P k ≤ f k + D k u * P k := by
  have a := h.dn_le hk htu hu
  have b := h.n1 k hk
  have c := h.np k hk
  have := Int.mul_le_mul_of_nonneg_right a (show 0 ≤ P k by omega)
  omega
/-- what a chore of a higher rank has had since a time at which nothing of it waited -/
theorem Sch.hp (h : Sch n N P f D S W U) {k t u : Nat} (hk : k < n) (htu : t ≤ u) (hu : u ≤ U) (h0 : (t : Int) ≤ f k + D k t * P k) {r : Int} (hr : (u : Int) - (t : Int) = r) :
    gotK N D S k u - gotK N D S k t ≤ N k * ((r + P k - 1) / P k) := by
  have o := h.one hk u hu
  have ot := h.one hk t (by omega)
  have b := h.n1 k hk
  have c := h.np k hk
  have dl := h.dn_le hk htu hu
  have st : S k t = 0 := by
    have := ot.s
    rcases Int.lt_or_le 0 (S k t) with q | q
    · have := ot.sp q; omega
    · omega
  obtain ⟨m, hm⟩ : ∃ m : Int, D k u = D k t + m := ⟨D k u - D k t, by omega⟩
  have hm0 : 0 ≤ m := by omega
  have e1 : gotK N D S k u - gotK N D S k t = m * N k + S k u := by
    unfold gotK; rw [hm, st, Int.add_mul]; omega
  have ecm : f k + D k u * P k = f k + D k t * P k + m * P k := by rw [hm, Int.add_mul]; omega
  rw [e1]
  have key : ∀ q : Int, q * P k ≤ r + P k - 1 → q * N k ≤ N k * ((r + P k - 1) / P k) := fun q hq => by
    have a1 : q ≤ (r + P k - 1) / P k := (Int.le_ediv_iff_mul_le (by omega)).2 hq
    have a2 := Int.mul_le_mul_of_nonneg_left a1 (show 0 ≤ N k by omega)
    rw [Int.mul_comm q (N k)]
    exact a2
  have os := o.s
  have on := o.sn
  by_cases hs : 0 < S k u
  · have a := o.sp hs
    have := key (m + 1) (by rw [Int.add_mul, Int.one_mul]; omega)
    rw [Int.add_mul, Int.one_mul] at this
    omega
  · by_cases hm1 : 1 ≤ m
    · have a := o.dp (by have := ot.d; omega)
      have := key m (by omega)
      omega
    · have e : m = 0 := by omega
      have := key 0 (by omega)
      rw [e]
      omega
def sumG (g : Nat → Int) : Nat → Int
  | 0 => 0
  | k + 1 => sumG g k + g k
theorem sumG_same {g g' : Nat → Int} : ∀ {m : Nat}, (∀ k, k < m → g' k = g k) → sumG g' m = sumG g m
  | 0, _ => rfl
  | m + 1, h => by rw [sumG, sumG, sumG_same fun k hk => h k (by omega), h m (by omega)]
theorem sumG_one {g g' : Nat → Int} {j : Nat} : ∀ {m : Nat}, j < m → g' j = g j + 1 → (∀ k, k < m → k ≠ j → g' k = g k) → sumG g' m = sumG g m + 1
  | 0, h, _, _ => by omega
  | m + 1, h, h1, h2 => by
    rw [sumG, sumG]
    by_cases e : j = m
    · subst e
      rw [h1, sumG_same fun k hk => h2 k (by omega) (by omega)]; omega
    · rw [sumG_one (by omega) h1 fun k hk hne => h2 k (by omega) hne, h2 m (by omega) (by omega)]; omega
/-- ticks that all go to the first m chores -/
theorem Sch.all (h : Sch n N P f D S W U) {m t : Nat} (hm : m ≤ n) : ∀ q, t + q ≤ U → (∀ τ, t ≤ τ → τ < t + q → 0 ≤ W τ ∧ W τ < (m : Int)) → sumG (fun k => gotK N D S k (t + q)) m = sumG (fun k => gotK N D S k t) m + (q : Int)
  | 0, _, _ => by simp
  | q + 1, hq, hw => by
    have ih := h.all hm q (by omega) (fun τ h1 h2 => hw τ h1 (by omega))
    obtain ⟨w0, w1⟩ := hw (t + q) (by omega) (by omega)
    obtain ⟨j, hj⟩ : ∃ j : Nat, W (t + q) = (j : Int) := ⟨(W (t + q)).toNat, by omega⟩
    have := sumG_one (g := fun k => gotK N D S k (t + q)) (g' := fun k => gotK N D S k (t + (q + 1))) (j := j) (m := m) (by omega)
      (h.got_on (t := t + q) (by omega) (by omega) hj) (fun k hk hne => h.got_off (t := t + q) (by omega) (by omega) (by rw [hj]; omega))
    rw [this, ih]
    omega
/-- the last time up to c at which nothing of a higher rank waits that came ahead -/
theorem Sch.last (h : Sch n N P f D S W U) {i : Nat} (hi : i ≤ n) : ∀ c : Nat, ∃ t0, t0 ≤ c ∧ (∀ k, k < i → (t0 : Int) ≤ f k + D k t0 * P k) ∧ (∀ τ, t0 < τ → τ ≤ c → ∃ k, k < i ∧ f k + D k τ * P k < (τ : Int))
  | 0 => ⟨0, Nat.le_refl _, fun k hk => by have := h.f0 k (by omega); rw [h.d0 k (by omega)]; omega, fun τ h1 h2 => by omega⟩
  | c + 1 => by
    by_cases e : ∀ k, k < i → ((c + 1 : Nat) : Int) ≤ f k + D k (c + 1) * P k
    · exact ⟨c + 1, Nat.le_refl _, e, fun τ h1 h2 => by omega⟩
    · obtain ⟨t0, a, b, d⟩ := h.last hi c
      refine ⟨t0, by omega, b, fun τ h1 h2 => ?_⟩
      by_cases e2 : τ = c + 1
      · subst e2
        by_cases e3 : ∃ k, k < i ∧ f k + D k (c + 1) * P k < ((c + 1 : Nat) : Int)
        · exact e3
        · exact absurd (fun k hk => Int.not_lt.1 fun q => e3 ⟨k, hk, q⟩) e
      · exact d τ h1 (by omega)
theorem sum_hp {g g' : Nat → Int} {F : Nat → Int} {r : Int} : ∀ {m : Nat}, (∀ k, k < m → g' k - g k ≤ sn1 r (F (k * 3)) (F (k * 3 + 1))) → sumG g' m - sumG g m ≤ snK F r m
  | 0, _ => by simp [sumG, snK]
  | m + 1, h => by
    have a := sum_hp (m := m) fun k hk => h k (by omega)
    have b := h m (by omega)
    rw [sumG, sumG, snK]
    omega
/-- a job of chore i is done before its answer time is over -/
theorem Sch.resp {F : Nat → Int} (h : Sch n (fun k => F (k * 3 + 1)) (fun k => F (k * 3)) f D S W U) {i : Nat} (hi : i < n) {R : Int} (hR1 : F (i * 3 + 1) ≤ R) (hRP : R ≤ F (i * 3)) (hfix : asK F i R = R) : ∀ t, t ≤ U → (t : Int) < f i + D i t * F (i * 3) + R
  | 0, _ => by
    have a := h.n1 i hi
    have b := h.f0 i hi
    have c := h.d0 i hi
    rw [c]
    omega
  | t + 1, ht => by
    have ih := h.resp hi hR1 hRP hfix t (by omega)
    have n1 := h.n1 i hi
    by_cases hd : D i (t + 1) = D i t
    · rcases Int.lt_or_le ((t + 1 : Nat) : Int) (f i + D i (t + 1) * F (i * 3) + R) with q | q
      · exact q
      · exfalso
        -- the job came at c, and is not done at c + R
        obtain ⟨c, hc⟩ : ∃ c : Nat, (c : Int) = f i + D i (t + 1) * F (i * 3) := by
          have a := h.f0 i hi
          have b := (h.one hi (t + 1) ht).d
          have d := Int.mul_nonneg b (show 0 ≤ F (i * 3) by omega)
          exact ⟨(f i + D i (t + 1) * F (i * 3)).toNat, by omega⟩
        rw [← hd] at ih
        have hct : (t : Int) + 1 = (c : Int) + R := by omega
        have hcu : c ≤ U := by omega
        -- from c on the open job is this one
        have same : ∀ τ, c ≤ τ → τ ≤ t + 1 → D i τ = D i (t + 1) := fun τ h1 h2 => by
          have a := h.dn_le hi h2 ht
          by_cases e : τ = t + 1
          · rw [e]
          · have b := h.resp hi hR1 hRP hfix τ (by omega)
            rcases Int.lt_or_le (D i τ) (D i (t + 1)) with z | z
            · have z1 : D i τ + 1 ≤ D i (t + 1) := by omega
              have z2 := Int.mul_le_mul_of_nonneg_right z1 (show 0 ≤ F (i * 3) by omega)
              rw [Int.add_mul, Int.one_mul] at z2
              omega
            · omega
        have oc := h.one hi c hcu
        have sc : S i c = 0 := by
          have z := oc.s
          rcases Int.lt_or_le 0 (S i c) with y | y
          · have z1 := oc.sp y
            try simp only [] at z1
            rw [same c (Nat.le_refl _) (by omega)] at z1
            omega
          · omega
        obtain ⟨t0, hl, hq, hb⟩ := h.last (i := i) (by omega) c
        -- ahead of c all ticks since t0 go to those of a higher rank
        have hi0 : ∀ τ, t0 ≤ τ → τ < c → 0 ≤ W τ ∧ W τ < (i : Int) := fun τ h1 h2 => by
          obtain ⟨k, hk, hlt⟩ := hb (τ + 1) (by omega) (by omega)
          have z := h.cm_le (k := k) (by omega) (show τ ≤ τ + 1 by omega) (by omega)
          have y := h.top k τ (by omega) (by omega) (by omega)
          omega
        have hi1 : ∀ τ, t0 ≤ τ → τ < t + 1 → 0 ≤ W τ ∧ W τ < ((i + 1 : Nat) : Int) := fun τ h1 h2 => by
          by_cases e : τ < c
          · have := hi0 τ h1 e; omega
          · have y := h.top i τ hi (by omega) (by rw [same τ (by omega) (by omega)]; omega)
            omega
        -- what i had by t0 is what it had by c
        have const : ∀ m, t0 + m ≤ c → gotK (fun k => F (k * 3 + 1)) D S i (t0 + m) = gotK (fun k => F (k * 3 + 1)) D S i t0 := fun m => by
          induction m with
          | zero => intro _; rfl
          | succ m ihm =>
            intro hm
            rw [← Nat.add_assoc, h.got_off hi (by omega) (by have := hi0 (t0 + m) (by omega) (by omega); omega), ihm (by omega)]
        have gc : gotK (fun k => F (k * 3 + 1)) D S i c = D i (t + 1) * F (i * 3 + 1) := by
          unfold gotK; simp only []; rw [same c (Nat.le_refl _) (by omega), sc]; omega
        have gt0 : gotK (fun k => F (k * 3 + 1)) D S i t0 = D i (t + 1) * F (i * 3 + 1) := by
          have := const (c - t0) (by omega)
          rw [show t0 + (c - t0) = c by omega] at this
          rw [← this, gc]
        -- the time R behind t0
        obtain ⟨m, hm⟩ : ∃ m : Nat, (m : Int) = R := ⟨R.toNat, by omega⟩
        have hu : t0 + m ≤ t + 1 := by omega
        have gi : gotK (fun k => F (k * 3 + 1)) D S i (t0 + m) - gotK (fun k => F (k * 3 + 1)) D S i t0 ≤ F (i * 3 + 1) - 1 := by
          by_cases e : t0 + m ≤ c
          · rw [const m e]; omega
          · have z := (h.one hi (t0 + m) (by omega)).sn
            rw [gt0]
            unfold gotK
            simp only [] at z ⊢
            rw [same (t0 + m) (by omega) hu]
            omega
        have hall := h.all (m := i + 1) (t := t0) (by omega) m (by omega) (fun τ h1 h2 => hi1 τ h1 (by omega))
        have hsum := sum_hp (F := F) (r := R) (m := i) (g := fun k => gotK (fun k => F (k * 3 + 1)) D S k t0) (g' := fun k => gotK (fun k => F (k * 3 + 1)) D S k (t0 + m)) (fun k hk => h.hp (k := k) (t := t0) (u := t0 + m) (by omega) (by omega) (by omega) (hq k hk) (by omega))
        rw [sumG, sumG] at hall
        unfold asK at hfix
        omega
    · have up := h.dn_le hi (show t ≤ t + 1 by omega) ht
      have z1 : D i t + 1 ≤ D i (t + 1) := by omega
      have z2 := Int.mul_le_mul_of_nonneg_right z1 (show 0 ≤ F (i * 3) by omega)
      rw [Int.add_mul, Int.one_mul] at z2
      omega
end
end Go.Proofs.Ytnadedncjbibhaa
