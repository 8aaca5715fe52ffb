/- Numbers alone: there are dues just where who costs least. -/
import Derived.Test.YtjmdghkhapajiaaAsDuM
namespace Go.Proofs.Ytjmdghkhapajiaa
open Go.RowKit
/-- the sum of the first n -/
def smI (f : Nat → Int) : Nat → Int
  | 0 => 0
  | n + 1 => smI f n + f n
theorem smI_cg {f h : Nat → Int} : ∀ {n}, (∀ i, i < n → f i = h i) → smI f n = smI h n
  | 0, _ => rfl
  | n + 1, e => by unfold smI; rw [smI_cg fun i hi => e i (by omega), e n (by omega)]
theorem smI_le {f h : Nat → Int} : ∀ {n}, (∀ i, i < n → f i ≤ h i) → smI f n ≤ smI h n
  | 0, _ => Int.le_refl _
  | n + 1, e => by
    have h1 := smI_le (n := n) fun i hi => e i (by omega)
    have h2 := e n (by omega)
    unfold smI; omega
theorem smI_add (f h : Nat → Int) : ∀ n, smI (fun i => f i + h i) n = smI f n + smI h n
  | 0 => rfl
  | n + 1 => by have := smI_add f h n; unfold smI; omega
theorem smI_sub (f h : Nat → Int) : ∀ n, smI (fun i => f i - h i) n = smI f n - smI h n
  | 0 => rfl
  | n + 1 => by have := smI_sub f h n; unfold smI; omega
theorem smI_put (f : Nat → Int) (j : Nat) (v : Int) : ∀ n, smI (put f j v) n = smI f n + (if j < n then v - f j else 0)
  | 0 => by simp [smI]
  | n + 1 => by
    have ih := smI_put f j v n
    unfold smI
    rw [ih]
    by_cases c : n = j
    · subst c
      rw [if_neg (by omega), if_pos (by omega)]
      simp only [put, if_true]; omega
    · have e : put f j v n = f n := by unfold put; rw [if_neg c]
      rw [e]
      by_cases d : j < n
      · rw [if_pos d, if_pos (by omega)]; omega
      · rw [if_neg d, if_neg (by omega)]; omega
/-- each of the first n goes to one of them, no two to the same -/
def Inj (p : Nat → Nat) (n : Nat) : Prop := (∀ i, i < n → p i < n) ∧ ∀ i j, i < n → j < n → p i = p j → i = j
theorem inj_all : ∀ {n : Nat} {p : Nat → Nat}, Inj p n → (∀ t, t < n → ∃ i, i < n ∧ p i = t) ∧ ∀ f : Nat → Int, smI (fun i => f (p i)) n = smI f n
  | 0, p, _ => ⟨fun t ht => by omega, fun f => rfl⟩
  | n + 1, p, h => by
    by_cases c : ∀ i, i < n + 1 → ¬ p i = n
    · exfalso
      have hp : ∀ i, i < n + 1 → p i < n := fun i hi => by have h1 := h.1 i hi; have h2 := c i hi; omega
      obtain ⟨i, hi, e⟩ := (inj_all (n := n) (p := p) ⟨fun i hi => hp i (by omega), fun i j hi hj => h.2 i j (by omega) (by omega)⟩).1 (p n) (hp n (by omega))
      have := h.2 i n (by omega) (by omega) e
      omega
    · obtain ⟨j, hj, e0⟩ := not_all c
      have e : p j = n := by omega
      have hq : ∀ i, i < n → (if i = j then p n else p i) < n := fun i hi => by
        split
        · have h1 := h.1 n (by omega)
          have h2 : p n ≠ n := fun e2 => by have := h.2 n j (by omega) hj (e2.trans e.symm); omega
          omega
        · rename_i hne
          have h1 := h.1 i (by omega)
          have h2 : p i ≠ n := fun e2 => hne (h.2 i j (by omega) hj (e2.trans e.symm))
          omega
      have hi2 : Inj (fun i => if i = j then p n else p i) n := ⟨hq, fun i k hi hk e2 => by
        try simp only at e2
        split at e2
        · split at e2
          · omega
          · have := h.2 n k (by omega) (by omega) e2; omega
        · split at e2
          · have := h.2 i n (by omega) (by omega) e2; omega
          · exact h.2 i k (by omega) (by omega) e2⟩
      obtain ⟨h1, h2⟩ := inj_all hi2
      refine ⟨fun t ht => ?_, fun f => ?_⟩
      · by_cases c2 : t = n
        · exact ⟨j, hj, by omega⟩
        · obtain ⟨i, hi, e3⟩ := h1 t (by omega)
          try simp only at e3
          split at e3
          · exact ⟨n, by omega, e3⟩
          · exact ⟨i, by omega, e3⟩
      · have h3 := h2 f
        have h4 : (fun i => f (if i = j then p n else p i)) = put (fun i => f (p i)) j (f (p n)) := by
          funext i; unfold put; split <;> rfl
        rw [h4, smI_put] at h3
        show smI (fun i => f (p i)) n + f (p n) = smI f n + f n
        by_cases d : j < n
        · rw [if_pos d, e] at h3; omega
        · rw [if_neg d] at h3
          have : j = n := by omega
          rw [this] at e
          rw [e]; omega
section
variable {n m : Nat} {K : Nat → Nat} {F : Nat → Nat → Int} {g h : Nat → Int}
theorem cs_sm (F : Nat → Nat → Int) (g : Nat → Int) : ∀ k, csK F g k = smI (fun i => F i (g i).toNat) k
  | 0 => rfl
  | k + 1 => by unfold csK smI; rw [cs_sm F g k]
theorem ga_inj (ga : GA n m K F g) : Inj (fun i => (g i).toNat) n :=
  ⟨fun i hi => by have := ga.bd i hi; show (g i).toNat < n; omega, fun i j hi hj e => by
    have h1 := ga.bd i hi
    have h2 := ga.bd j hj
    have e2 : (g i).toNat = (g j).toNat := e
    exact ga.one i j hi hj (by omega)⟩
/-- with dues that nobody would rather lower, no other who costs less -/
theorem fea_least (ga : GA n m K F g) (gh : GA n m K F h) {D : Nat → Int} (hD : Fea n F g D) : csK F g n ≤ csK F h n := by
  have h1 : smI (fun i => F i (g i).toNat + D (g i).toNat) n ≤ smI (fun i => F i (h i).toNat + D (h i).toNat) n := smI_le fun i hi => by
    have h2 := gh.bd i hi
    have := hD i (h i).toNat hi (by omega)
    omega
  have h2 := (inj_all (ga_inj ga)).2 D
  have h3 := (inj_all (ga_inj gh)).2 D
  have h4 := smI_add (fun i => F i (g i).toNat) (fun i => D (g i).toNat) n
  have h5 := smI_add (fun i => F i (h i).toNat) (fun i => D (h i).toNat) n
  rw [cs_sm, cs_sm]
  omega
/-- what it costs more if the robot of task a has b -/
def edg (F : Nat → Nat → Int) (g : Nat → Int) (n : Nat) (a b : Nat) : Int := smI (fun i => if (g i).toNat = a then F i b - F i a else 0) n
theorem smI_zero {f : Nat → Int} : ∀ {k}, (∀ i, i < k → f i = 0) → smI f k = 0
  | 0, _ => rfl
  | k + 1, e => by unfold smI; rw [smI_zero fun i hi => e i (by omega), e k (by omega)]; rfl
theorem smI_one {f : Nat → Int} {j : Nat} : ∀ {k}, j < k → (∀ i, i < k → i ≠ j → f i = 0) → smI f k = f j
  | 0, hj, _ => by omega
  | k + 1, hj, e => by
    unfold smI
    by_cases c : j = k
    · subst c; rw [smI_zero fun i hi => e i (by omega) (by omega)]; omega
    · rw [smI_one (by omega) fun i hi hn => e i (by omega) hn, e k (by omega) (by omega)]; omega
theorem edg_eq (ga : GA n m K F g) {i b : Nat} (hi : i < n) : edg F g n (g i).toNat b = F i b - F i (g i).toNat := by
  unfold edg
  rw [smI_one (j := i) hi (fun k hk hne => by
    rw [if_neg]
    intro e
    exact hne ((ga_inj ga).2 k i hk hi e))]
  rw [if_pos rfl]
/-- the cost of a walk along tasks, k steps from x 0 on -/
def wlk (c : Nat → Nat → Int) (x : Nat → Nat) : Nat → Int
  | 0 => 0
  | k + 1 => wlk c x k + c (x k) (x (k + 1))
/-- where t stands among the first m of y -/
def fsI (y : Nat → Nat) (t : Nat) : Nat → Nat
  | 0 => 0
  | m + 1 => if y m = t then m else fsI y t m
theorem fsI_at {y : Nat → Nat} {t : Nat} : ∀ {m s : Nat}, s < m → y s = t → (∀ i j, i < m → j < m → y i = y j → i = j) → fsI y t m = s
  | 0, s, h, _, _ => by omega
  | m + 1, s, h, e, hi => by
    unfold fsI
    by_cases c : y m = t
    · rw [if_pos c]; exact hi m s (by omega) (by omega) (c.trans e.symm)
    · rw [if_neg c]
      have : s ≠ m := fun e2 => c (e2 ▸ e)
      exact fsI_at (by omega) e fun i j h1 h2 => hi i j (by omega) (by omega)
def inY (y : Nat → Nat) (t : Nat) : Nat → Bool
  | 0 => false
  | m + 1 => inY y t m || decide (y m = t)
theorem inY_t {y : Nat → Nat} {t : Nat} : ∀ {m}, inY y t m = true ↔ ∃ s, s < m ∧ y s = t
  | 0 => by simp [inY]
  | m + 1 => by
    unfold inY
    rw [Bool.or_eq_true, inY_t, decide_eq_true_eq]
    constructor
    · rintro (⟨s, hs, e⟩ | e)
      · exact ⟨s, by omega, e⟩
      · exact ⟨m, by omega, e⟩
    · rintro ⟨s, hs, e⟩
      by_cases c : s = m
      · subst c; exact .inr e
      · exact .inl ⟨s, by omega, e⟩
/-- a sum over what stands in y, each once -/
theorem sm_in {y : Nat → Nat} {φ : Nat → Int} : ∀ {m : Nat}, (∀ s, s < m → y s < n) → (∀ i j, i < m → j < m → y i = y j → i = j) → smI (fun t => if inY y t m = true then φ t else 0) n = smI (fun s => φ (y s)) m
  | 0, _, _ => smI_zero fun i _ => by simp [inY]
  | m + 1, hb, hi => by
    have ih := sm_in (m := m) (φ := φ) (fun s hs => hb s (by omega)) (fun i j h1 h2 => hi i j (by omega) (by omega))
    have e : smI (fun t => if inY y t (m + 1) = true then φ t else 0) n = smI (fun t => (if inY y t m = true then φ t else 0) + (if t = y m then φ t else 0)) n := smI_cg fun t _ => by
      show (if (inY y t m || decide (y m = t)) = true then φ t else 0) = (if inY y t m = true then φ t else 0) + (if t = y m then φ t else 0)
      by_cases c : t = y m
      · have c2 : inY y t m = false := by
          cases e2 : inY y t m with
          | false => rfl
          | true =>
            obtain ⟨s, hs, e3⟩ := inY_t.1 e2
            have := hi s m (by omega) (by omega) (e3.trans c)
            omega
        rw [c2, if_pos (show (false || decide (y m = t)) = true by simp [c]), if_neg (by decide), if_pos c]; omega
      · have c3 : ¬ y m = t := fun e2 => c e2.symm
        rw [if_neg c, decide_eq_false c3, Bool.or_false]; omega
    rw [e, smI_add, ih, smI_one (j := y m) (hb m (by omega)) (fun i _ hne => if_neg hne), if_pos rfl]
    rfl
/-- shifting the robots of a ring of tasks on by one is a who again; so the ring costs nothing less than 0 -/
theorem ring_ge (ga : GA n n K F g) (hl : ∀ h, GA n n K F h → csK F g n ≤ csK F h n) {y : Nat → Nat} {m : Nat} (hm : 0 < m) (hb : ∀ s, s < m → y s < n) (hi : ∀ i j, i < m → j < m → y i = y j → i = j) (hy : y m = y 0) : 0 ≤ wlk (edg F g n) y m := by
  obtain ⟨nx, hnx⟩ : ∃ nx : Nat → Nat, ∀ t, nx t = if inY y t m = true then y (fsI y t m + 1) else t := ⟨fun t => _, fun t => rfl⟩
  have hat : ∀ s, s < m → nx (y s) = y (s + 1) := fun s hs => by
    rw [hnx, if_pos (inY_t.2 ⟨s, hs, rfl⟩), fsI_at hs rfl hi]
  have hyb : ∀ s, s ≤ m → y s < n := fun s hs => by
    by_cases c : s = m
    · rw [c, hy]; exact hb 0 hm
    · exact hb s (by omega)
  have hout : ∀ t, inY y t m = false → nx t = t := fun t c => by rw [hnx, if_neg (by rw [c]; decide)]
  have hnb : ∀ t, t < n → nx t < n := fun t ht => by
    cases c : inY y t m with
    | true => obtain ⟨s, hs, e⟩ := inY_t.1 c; rw [← e, hat s hs]; exact hyb _ (by omega)
    | false => rw [hout t c]; exact ht
  have hin1 : ∀ s, s < m → inY y (y (s + 1)) m = true := fun s hs => by
    by_cases c : s + 1 = m
    · rw [c, hy]; exact inY_t.2 ⟨0, hm, rfl⟩
    · exact inY_t.2 ⟨s + 1, by omega, rfl⟩
  have hni : ∀ t u, t < n → u < n → nx t = nx u → t = u := fun t u _ _ e => by
    cases c : inY y t m with
    | true =>
      obtain ⟨s, hs, e1⟩ := inY_t.1 c
      cases d : inY y u m with
      | true =>
        obtain ⟨r, hr, e2⟩ := inY_t.1 d
        rw [← e1, ← e2, hat s hs, hat r hr] at e
        have hsr : s = r := by
          by_cases c1 : s + 1 = m
          · by_cases c2 : r + 1 = m
            · omega
            · rw [c1, hy] at e
              have := hi 0 (r + 1) hm (by omega) e; omega
          · by_cases c2 : r + 1 = m
            · rw [c2, hy] at e
              have := hi (s + 1) 0 (by omega) hm e; omega
            · have := hi (s + 1) (r + 1) (by omega) (by omega) e; omega
        rw [← e1, ← e2, hsr]
      | false =>
        rw [← e1, hat s hs, hout u d] at e
        have := hin1 s hs
        rw [e, d] at this; cases this
    | false =>
      cases d : inY y u m with
      | true =>
        obtain ⟨r, hr, e2⟩ := inY_t.1 d
        rw [← e2, hat r hr, hout t c] at e
        have := hin1 r hr
        rw [← e, c] at this; cases this
      | false => rw [hout t c, hout u d] at e; exact e
  have hgt : ∀ i, i < n → (g i).toNat < n := fun i hi => by have := ga.bd i hi; omega
  have gh : GA n n K F (fun i => (nx (g i).toNat : Int)) := ⟨ga.gp, rfl, fun i hi => by have := hnb _ (hgt i hi); show 0 ≤ (nx (g i).toNat : Int) ∧ (nx (g i).toNat : Int) < (n : Int); omega, fun i j h1 h2 e => by
    have e2 : (nx (g i).toNat : Int) = (nx (g j).toNat : Int) := e
    have e3 : nx (g i).toNat = nx (g j).toNat := by omega
    exact (ga_inj ga).2 i j h1 h2 (hni _ _ (hgt i h1) (hgt j h2) e3)⟩
  have hle := hl _ gh
  rw [cs_sm, cs_sm] at hle
  have hsum : smI (fun i => F i (nx (g i).toNat) - F i (g i).toNat) n = wlk (edg F g n) y m := by
    have e1 : smI (fun i => F i (nx (g i).toNat) - F i (g i).toNat) n = smI (fun i => (fun t => if inY y t m = true then edg F g n t (nx t) else 0) (g i).toNat) n := smI_cg fun i hi => by
      show _ = if inY y (g i).toNat m = true then edg F g n (g i).toNat (nx (g i).toNat) else 0
      cases c : inY y (g i).toNat m with
      | true => rw [if_pos rfl, edg_eq ga hi]
      | false => rw [if_neg (by decide), hout _ c]; omega
    have e4 := (inj_all (ga_inj ga)).2 (fun t => if inY y t m = true then edg F g n t (nx t) else 0)
    refine e1.trans (e4.trans ?_)
    rw [sm_in hb hi]
    have : ∀ k, k ≤ m → smI (fun s => edg F g n (y s) (nx (y s))) k = wlk (edg F g n) y k := by
      intro k
      induction k with
      | zero => intro _; rfl
      | succ k ih => intro hk; unfold smI wlk; rw [ih (by omega), hat k (by omega)]
    exact this m (Nat.le_refl _)
  have hs := smI_sub (fun i => F i (nx (g i).toNat)) (fun i => F i (g i).toNat) n
  have e3 : smI (fun i => F i ((fun i => (nx (g i).toNat : Int)) i).toNat) n = smI (fun i => F i (nx (g i).toNat)) n := smI_cg fun i _ => by simp
  rw [e3] at hle
  omega
theorem wlk_cg {c : Nat → Nat → Int} {x z : Nat → Nat} : ∀ {k}, (∀ i, i ≤ k → x i = z i) → wlk c x k = wlk c z k
  | 0, _ => rfl
  | k + 1, e => by unfold wlk; rw [wlk_cg fun i hi => e i (by omega), e k (by omega), e (k + 1) (by omega)]
theorem wlk_add (c : Nat → Nat → Int) (x : Nat → Nat) (i : Nat) : ∀ k, wlk c x (i + k) = wlk c x i + wlk c (fun s => x (i + s)) k
  | 0 => by simp [wlk]
  | k + 1 => by
    show wlk c x (i + k) + c (x (i + k)) (x (i + k + 1)) = wlk c x i + (wlk c (fun s => x (i + s)) k + c (x (i + k)) (x (i + (k + 1))))
    rw [wlk_add c x i k, show i + (k + 1) = i + k + 1 by omega]; omega
/-- among more than n tasks one stands twice, with a ring between whose tasks are all apart -/
theorem twice {x : Nat → Nat} : ∀ {k : Nat}, (∀ i, i ≤ k → x i < n) → n ≤ k → ∃ i d, 0 < d ∧ i + d ≤ k ∧ x (i + d) = x i ∧ ∀ a b, a < d → b < d → x (i + a) = x (i + b) → a = b := by
  intro k hb hk
  -- some two alike, by counting
  have h1 : ∃ i j, i < j ∧ j ≤ n ∧ x i = x j := by
    by_cases c : ∃ i j, i < j ∧ j ≤ n ∧ x i = x j
    · exact c
    · exfalso
      have hinj : ∀ i j, i < n + 1 → j < n + 1 → x i = x j → i = j := fun i j hi hj e => by
        rcases Nat.lt_trichotomy i j with d | d | d
        · exact absurd ⟨i, j, d, by omega, e⟩ c
        · exact d
        · exact absurd ⟨j, i, d, by omega, e.symm⟩ c
      have hI : Inj x n := ⟨fun i hi => hb i (by omega), fun i j hi hj => hinj i j (by omega) (by omega)⟩
      obtain ⟨i, hi, e⟩ := (inj_all hI).1 (x n) (hb n (by omega))
      have := hinj i n (by omega) (by omega) e
      omega
  obtain ⟨i, j, hij, hj, e⟩ := h1
  -- the shortest such
  have h2 : ∀ d i, 0 < d → i + d ≤ k → x (i + d) = x i → ∃ i d, 0 < d ∧ i + d ≤ k ∧ x (i + d) = x i ∧ ∀ a b, a < d → b < d → x (i + a) = x (i + b) → a = b := by
    intro d
    induction d using Nat.strongRecOn with
    | _ d ih =>
      intro i hd hi he
      by_cases c : ∀ a b, a < d → b < d → x (i + a) = x (i + b) → a = b
      · exact ⟨i, d, hd, hi, he, c⟩
      · have : ∃ a b, a < b ∧ b < d ∧ x (i + a) = x (i + b) := by
          by_cases c2 : ∃ a b, a < b ∧ b < d ∧ x (i + a) = x (i + b)
          · exact c2
          · exfalso
            refine c fun a b ha hb2 e2 => ?_
            rcases Nat.lt_trichotomy a b with q | q | q
            · exact absurd ⟨a, b, q, hb2, e2⟩ c2
            · exact q
            · exact absurd ⟨b, a, q, ha, e2.symm⟩ c2
        obtain ⟨a, b, hab, hbd, e2⟩ := this
        exact ih (b - a) (by omega) (i + a) (by omega) (by omega) (by rw [show i + a + (b - a) = i + b by omega]; exact e2.symm)
  exact h2 (j - i) i (by omega) (by omega) (by rw [show i + (j - i) = j by omega]; exact e.symm)
/-- where who costs least no walk costs less than this -/
theorem wlk_ge (ga : GA n n K F g) (hl : ∀ h, GA n n K F h → csK F g n ≤ csK F h n) : ∀ (k : Nat) (x : Nat → Nat), (∀ i, i ≤ k → x i < n) → -(100000 * (n : Int)) ≤ wlk (edg F g n) x k := by
  intro k
  induction k using Nat.strongRecOn with
  | _ k ih =>
    intro x hx
    by_cases c : n ≤ k
    · obtain ⟨i, d, hd, hi, he, hap⟩ := twice hx c
      have hr := ring_ge ga hl (y := fun s => x (i + s)) hd (fun s hs => hx _ (by omega)) hap he
      have h1 := wlk_add (edg F g n) x i d
      have h2 := wlk_add (edg F g n) x (i + d) (k - (i + d))
      rw [show i + d + (k - (i + d)) = k by omega] at h2
      obtain ⟨z, hz⟩ : ∃ z : Nat → Nat, ∀ s, z s = if s ≤ i then x s else x (s + d) := ⟨fun s => _, fun s => rfl⟩
      have h3 := ih (k - d) (by omega) z (fun s hs => by rw [hz]; split; exact hx s (by omega); exact hx _ (by omega))
      have h4 := wlk_add (edg F g n) z i (k - d - i)
      rw [show i + (k - d - i) = k - d by omega] at h4
      have h5 : wlk (edg F g n) z i = wlk (edg F g n) x i := wlk_cg fun s hs => by rw [hz, if_pos hs]
      have h6 : wlk (edg F g n) (fun s => z (i + s)) (k - d - i) = wlk (edg F g n) (fun s => x (i + d + s)) (k - (i + d)) := by
        rw [show k - d - i = k - (i + d) by omega]
        refine wlk_cg fun s _ => ?_
        show z (i + s) = x (i + d + s)
        rw [hz]
        by_cases c2 : s = 0
        · subst c2; rw [if_pos (by omega)]; exact he.symm
        · rw [if_neg (by omega), show i + s + d = i + d + s by omega]
      omega
    · have : ∀ k, (∀ i, i ≤ k → x i < n) → -(100000 * (k : Int)) ≤ wlk (edg F g n) x k := by
        intro k
        induction k with
        | zero => intro _; simp [wlk]
        | succ k ih2 =>
          intro hx2
          have h1 := ih2 fun i hi => hx2 i (by omega)
          obtain ⟨j, hj, e⟩ := (inj_all (ga_inj ga)).1 (x k) (hx2 k (by omega))
          have e2 : (g j).toNat = x k := e
          have h2 := edg_eq ga (b := x (k + 1)) hj
          rw [e2] at h2
          have h3 := ga.gp.bd j (x (k + 1)) hj (hx2 (k + 1) (by omega))
          have h4 := ga.gp.bd j (x k) hj (hx2 k (by omega))
          unfold wlk
          omega
      have h1 := this k hx
      omega
/-- each due is the cost of a walk -/
def Wk (F : Nat → Nat → Int) (g : Nat → Int) (n : Nat) (D : Nat → Int) : Prop := ∀ t, t < n → ∃ (k : Nat) (x : Nat → Nat), x 0 = t ∧ (∀ i, i ≤ k → x i < n) ∧ D t = wlk (edg F g n) x k
theorem wk_lw (ga : GA n n K F g) {i b : Nat} (hi : i < n) (hb : b < n) {D : Nat → Int} (h : Wk F g n D) : Wk F g n (lwD F g i b D) := fun t ht => by
  unfold lwD
  split
  · by_cases c : t = (g i).toNat
    · obtain ⟨k, x, h0, h1, h2⟩ := h b hb
      refine ⟨k + 1, fun s => if s = 0 then t else x (s - 1), rfl, fun s hs => ?_, ?_⟩
      · show (if s = 0 then t else x (s - 1)) < n
        split
        · exact ht
        · exact h1 _ (by omega)
      · have e1 := wlk_add (edg F g n) (fun s => if s = 0 then t else x (s - 1)) 1 k
        rw [Nat.add_comm 1 k] at e1
        have e2 : wlk (edg F g n) (fun s => (fun s => if s = 0 then t else x (s - 1)) (1 + s)) k = wlk (edg F g n) x k := wlk_cg fun s _ => by
          show (if 1 + s = 0 then t else x (1 + s - 1)) = x s
          rw [if_neg (by omega), Nat.add_sub_cancel_left]
        have e3 : wlk (edg F g n) (fun s => if s = 0 then t else x (s - 1)) 1 = edg F g n t b := by
          show 0 + edg F g n t (x 0) = _
          rw [h0]; omega
        rw [e1, e2, e3, c, edg_eq ga hi]
        unfold put moS
        rw [if_pos rfl, h2]; omega
    · obtain ⟨k, x, h0, h1, h2⟩ := h t ht
      exact ⟨k, x, h0, h1, by unfold put; rw [if_neg c]; exact h2⟩
  · exact h t ht
theorem wk_row (ga : GA n n K F g) {i : Nat} (hi : i < n) {D : Nat → Int} (h : Wk F g n D) : ∀ b, b ≤ n → Wk F g n (rowD F g i D b)
  | 0, _ => h
  | b + 1, hb => wk_lw ga hi (by omega) (wk_row ga hi h b (by omega))
theorem wk_rnd (ga : GA n n K F g) {D : Nat → Int} (h : Wk F g n D) : ∀ i, i ≤ n → Wk F g n (rndD F g n D i)
  | 0, _ => h
  | i + 1, hi => wk_row ga (by omega) (wk_rnd ga h i (by omega)) n (Nat.le_refl _)
theorem wk_du (ga : GA n n K F g) : ∀ r, Wk F g n (duD F g n r)
  | 0 => fun t ht => ⟨0, fun _ => t, rfl, fun _ _ => ht, rfl⟩
  | r + 1 => wk_rnd ga (wk_du ga r) n (Nat.le_refl _)
end
end Go.Proofs.Ytjmdghkhapajiaa
