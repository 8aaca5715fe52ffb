/- Numbers alone: the least that is left to pay, by sets of tasks, and who has which task where all costs least. -/
import Derived.Test.YtjmdghkhapajiaaAsM
import Derived.Test.YtjmdghkhapajiaaAsOf
import Derived.Test.YtjmdghkhapajiaaAsPc
namespace Go.Proofs.Ytjmdghkhapajiaa
open Go.RowKit
/-- what is offered for each task, where those of M are taken -/
def ofT (f : Nat → Int) (M : Nat) (R : Nat → Int) (t : Nat) : Option Int := if M.testBit t = true then none else some (f t + R (M ||| 2 ^ t))
def mnO (O : Nat → Option Int) : Nat → Option Int
  | 0 => none
  | t + 1 => match O t, mnO O t with
    | none, b => b
    | some c, none => some c
    | some c, some b => if c < b then some c else some b
theorem ch_mn (O : Nat → Option Int) : ∀ k, 0 < k → O (chK O k) = mnO O k
  | 0, h => by omega
  | k + 1, _ => by
    by_cases e : k = 0
    · subst e
      have h0 : chK O 1 = 0 := by unfold chK; split <;> rfl
      show O (chK O 1) = mnO O 1
      rw [h0]
      unfold mnO
      cases O 0 <;> rfl
    · have ih := ch_mn O k (by omega)
      unfold chK mnO
      rw [← ih]
      cases h1 : O k with
      | none => simp [ltO]
      | some c =>
        cases h2 : O (chK O k) with
        | none => simp [ltO, h1]
        | some b =>
          by_cases g : c < b
          · simp [ltO, g, h1]
          · simp [ltO, g, h2]
theorem mn_some {O : Nat → Option Int} : ∀ {n t : Nat}, t < n → (O t).isSome = true → (mnO O n).isSome = true
  | 0, t, h, _ => by omega
  | n + 1, t, h, h2 => by
    unfold mnO
    by_cases e : t = n
    · subst e
      cases h3 : O t with
      | none => rw [h3] at h2; cases h2
      | some c => cases mnO O t <;> simp <;> split <;> rfl
    · have := mn_some (n := n) (by omega) h2
      cases h3 : mnO O n with
      | none => rw [h3] at this; cases this
      | some b => cases O n <;> simp <;> split <;> rfl
/-- it is one of those that are offered -/
theorem mn_in {O : Nat → Option Int} {P : Int → Prop} : ∀ {n : Nat}, (∀ t c, t < n → O t = some c → P c) → ∀ c, mnO O n = some c → P c
  | 0, _, c, h => by cases h
  | n + 1, h, c, h2 => by
    unfold mnO at h2
    have ih := mn_in (n := n) (fun t c ht => h t c (by omega))
    cases h3 : O n with
    | none => rw [h3] at h2; exact ih c h2
    | some d =>
      cases h4 : mnO O n with
      | none => rw [h3, h4] at h2; cases h2; exact h n c (by omega) h3
      | some b =>
        rw [h3, h4] at h2
        simp only at h2
        split at h2
        · cases h2; exact h n c (by omega) h3
        · cases h2; exact ih c h4
/-- .. and the first of them -/
theorem ch_first (O : Nat → Option Int) : ∀ k t c, t < chK O k → O (chK O k) = some c → O t ≠ some c
  | 0, t, c, h, _ => by simp [chK] at h
  | k + 1, t, c, h, h2 => by
    unfold chK at h h2
    split at h
    · rename_i g
      rw [if_pos g] at h2
      intro h3
      by_cases e : k = 0
      · omega
      · -- t < k: its offer is not below the best so far, which asks more than c
        have hm := ch_mn O k (by omega)
        rw [h2] at g
        cases h5 : O (chK O k) with
        | none =>
          rw [h5] at hm
          have := mn_some (O := O) h (by rw [h3]; rfl)
          rw [← hm] at this; cases this
        | some b =>
          rw [h5] at g
          have hcb : c < b := by simpa [ltO] using g
          have hle := mn_le (O := O) h h3
          rw [← hm, h5] at hle
          have := hle b rfl
          omega
    · rename_i g
      rw [if_neg g] at h2
      exact ch_first O k t c h h2
where
  mn_le {O : Nat → Option Int} : ∀ {n t : Nat} {c : Int}, t < n → O t = some c → ∀ b, mnO O n = some b → b ≤ c
    | 0, t, c, h, _, b, _ => by omega
    | n + 1, t, c, h, h2, b, h3 => by
      unfold mnO at h3
      by_cases e : t = n
      · subst e
        rw [h2] at h3
        cases h4 : mnO O t with
        | none => rw [h4] at h3; cases h3; exact Int.le_refl _
        | some d => rw [h4] at h3; simp only at h3; split at h3 <;> (cases h3; omega)
      · have ih := mn_le (O := O) (n := n) (by omega) h2
        cases h4 : mnO O n with
        | none =>
          have := mn_some (O := O) (n := n) (t := t) (by omega) (by rw [h2]; rfl)
          rw [h4] at this; cases this
        | some d =>
          rw [h4] at h3
          have := ih d h4
          cases h5 : O n with
          | none => rw [h5] at h3; cases h3; exact this
          | some x => rw [h5] at h3; simp only at h3; split at h3 <;> (cases h3; omega)
theorem mn_congr {O P : Nat → Option Int} : ∀ {n : Nat}, (∀ t, t < n → O t = P t) → mnO O n = mnO P n
  | 0, _ => rfl
  | n + 1, h => by unfold mnO; rw [h n (by omega), mn_congr fun t ht => h t (by omega)]
theorem ch_congr {O P : Nat → Option Int} : ∀ {n : Nat}, (∀ t, t < n → O t = P t) → chK O n = chK P n
  | 0, _ => rfl
  | n + 1, h => by
    have ih := ch_congr (n := n) fun t ht => h t (by omega)
    unfold chK
    rw [ih, h n (by omega)]
    by_cases e : n = 0
    · subst e
      have : chK P 0 = 0 := rfl
      rw [this, h 0 (by omega)]
    · rw [h (chK P n) (by have := chK_lt P n (by omega); omega)]
/-- what k robots still ask at least, those of M being taken -/
def lsL (F : Nat → Nat → Int) (n : Nat) : Nat → Nat → Int
  | 0, _ => 0
  | k + 1, M => (mnO (ofT (F (n - (k + 1))) M (lsL F n k)) n).getD (-1)
theorem free_all : ∀ n : Fin 7, ∀ M : Fin 64, M.val < 2 ^ n.val → pcN M.val < n.val → ∃ t : Fin 6, t.val < n.val ∧ M.val.testBit t.val = false := by decide +kernel
theorem free_task {n M : Nat} (hn : n ≤ 6) (hM : M < 2 ^ n) (h : pcN M < n) : ∃ t, t < n ∧ M.testBit t = false := by
  have h6 : 2 ^ n ≤ 2 ^ 6 := Nat.pow_le_pow_right (by omega) hn
  obtain ⟨t, h1, h2⟩ := free_all ⟨n, by omega⟩ ⟨M, by omega⟩ hM h
  exact ⟨t.val, h1, h2⟩
theorem less_all : ∀ n : Fin 7, ∀ M : Fin 64, M.val + 1 < 2 ^ n.val → pcN M.val < n.val := by decide +kernel
theorem pc_less {n M : Nat} (hn : n ≤ 6) (hM : M + 1 < 2 ^ n) : pcN M < n := by
  have h6 : 2 ^ n ≤ 2 ^ 6 := Nat.pow_le_pow_right (by omega) hn
  exact less_all ⟨n, by omega⟩ ⟨M, by omega⟩ hM
theorem full_all : ∀ n : Fin 7, pcN (2 ^ n.val - 1) = n.val := by decide +kernel
theorem or_lt {n M t : Nat} (hM : M < 2 ^ n) (ht : t < n) : M ||| 2 ^ t < 2 ^ n := Nat.or_lt_two_pow hM (Nat.pow_lt_pow_right (by omega) ht)
theorem lt64 {n M : Nat} (hn : n ≤ 6) (hM : M < 2 ^ n) : M < 64 := Nat.lt_of_lt_of_le hM (Nat.pow_le_pow_right (n := 2) (by omega) hn)
section
variable {n : Nat} {K : Nat → Nat} {F : Nat → Nat → Int}
/-- what is left, and by which task it is reached -/
theorem ls_step (gp : GP n K F) {k M : Nat} (_hk : k < n) (hM : M < 2 ^ n) (hp : pcN M + (k + 1) = n) {O : Nat → Option Int} (hO : ∀ t, t < n → O t = ofT (F (n - (k + 1))) M (lsL F n k) t) :
    chK O n < n ∧ M.testBit (chK O n) = false ∧ F (n - (k + 1)) (chK O n) + lsL F n k (M ||| 2 ^ chK O n) = lsL F n (k + 1) M := by
  obtain ⟨t, ht, hb⟩ := free_task gp.hi hM (by omega)
  have h0 : O t = some (F (n - (k + 1)) t + lsL F n k (M ||| 2 ^ t)) := by rw [hO t ht]; unfold ofT; rw [if_neg (by rw [hb]; decide)]
  have h1 := mn_some (O := O) ht (by rw [h0]; rfl)
  have h2 := ch_mn O n (by omega)
  have h3 := chK_lt O n (by omega)
  obtain ⟨c, hc⟩ := Option.isSome_iff_exists.1 h1
  have h4 : lsL F n (k + 1) M = c := by
    show (mnO (ofT (F (n - (k + 1))) M (lsL F n k)) n).getD (-1) = c
    rw [← mn_congr hO, hc]; rfl
  rw [hc, hO _ h3] at h2
  unfold ofT at h2
  split at h2
  · cases h2
  · rename_i g
    refine ⟨h3, by simpa using g, ?_⟩
    rw [h4]; exact Option.some.inj h2
theorem ls_bd (gp : GP n K F) : ∀ k M, M < 2 ^ n → pcN M + k = n → 0 ≤ lsL F n k M ∧ lsL F n k M ≤ 100000 * (k : Int)
  | 0, M, _, _ => by simp [lsL]
  | k + 1, M, hM, hp => by
    obtain ⟨h1, h2, h3⟩ := ls_step gp (k := k) (M := M) (by omega) hM hp (O := ofT (F (n - (k + 1))) M (lsL F n k)) (fun t _ => rfl)
    have h64 := lt64 gp.hi hM
    have h4 := (pc_up M _ h64 (by have := gp.hi; omega) h2).1
    have h5 := ls_bd gp k _ (or_lt hM h1) (by omega)
    have h6 := gp.bd (n - (k + 1)) _ (by omega) h1
    omega
/-- the tasks of the first robots, as bits, where all costs least -/
def bwM (F : Nat → Nat → Int) (n : Nat) : Nat → Nat
  | 0 => 0
  | i + 1 => bwM F n i ||| 2 ^ chK (ofT (F i) (bwM F n i) (lsL F n (n - (i + 1)))) n
def bwT (F : Nat → Nat → Int) (n i : Nat) : Nat := chK (ofT (F i) (bwM F n i) (lsL F n (n - (i + 1)))) n
theorem bw_all (gp : GP n K F) : ∀ i, i ≤ n → bwM F n i < 2 ^ n ∧ pcN (bwM F n i) = i
  | 0, _ => ⟨Nat.two_pow_pos n, by simp [bwM, pcN]⟩
  | i + 1, hi => by
    obtain ⟨h1, h2⟩ := bw_all gp i (by omega)
    have e : n - (n - (i + 1) + 1) = i := by omega
    obtain ⟨h3, h4, h5⟩ := ls_step gp (k := n - (i + 1)) (M := bwM F n i) (by omega) h1 (by omega) (O := ofT (F i) (bwM F n i) (lsL F n (n - (i + 1)))) (fun t _ => by rw [e])
    have h6 := (pc_up _ _ (lt64 gp.hi h1) (by have := gp.hi; omega) h4).1
    exact ⟨or_lt h1 h3, by show pcN (bwM F n i ||| 2 ^ _) = i + 1; omega⟩
theorem bw_step (gp : GP n K F) {i : Nat} (hi : i < n) : bwT F n i < n ∧ (bwM F n i).testBit (bwT F n i) = false ∧ F i (bwT F n i) + lsL F n (n - (i + 1)) (bwM F n (i + 1)) = lsL F n (n - i) (bwM F n i) := by
  obtain ⟨h1, h2⟩ := bw_all gp i (by omega)
  have e : n - (n - (i + 1) + 1) = i := by omega
  have e2 : n - (i + 1) + 1 = n - i := by omega
  have k := ls_step gp (k := n - (i + 1)) (M := bwM F n i) (by omega) h1 (by omega) (O := ofT (F i) (bwM F n i) (lsL F n (n - (i + 1)))) (fun t _ => by rw [e])
  rw [e, e2] at k
  exact k
theorem bw_cost (gp : GP n K F) : ∀ i, i ≤ n → csK F (fun i => (bwT F n i : Int)) i + lsL F n (n - i) (bwM F n i) = lsL F n n 0
  | 0, _ => by simp [csK, bwM]
  | i + 1, hi => by
    have h1 := bw_cost gp i (by omega)
    have h2 := (bw_step gp (i := i) (by omega)).2.2
    have h3 : csK F (fun i => (bwT F n i : Int)) (i + 1) = csK F (fun i => (bwT F n i : Int)) i + F i (bwT F n i) := rfl
    omega
theorem bw_sum (gp : GP n K F) : csK F (fun i => (bwT F n i : Int)) n = lsL F n n 0 := by
  have := bw_cost gp n (Nat.le_refl _)
  rw [Nat.sub_self] at this
  simpa [lsL] using this
/-- the first task that leaves no more than needs be -/
theorem bw_first (gp : GP n K F) {i t : Nat} (hi : i < n) (ht : t < bwT F n i) (hb : (bwM F n i).testBit t = false) : F i t + lsL F n (n - (i + 1)) (bwM F n i ||| 2 ^ t) ≠ lsL F n (n - i) (bwM F n i) := by
  obtain ⟨h1, h2, h3⟩ := bw_step gp hi
  have k := ch_first (ofT (F i) (bwM F n i) (lsL F n (n - (i + 1)))) n t (lsL F n (n - i) (bwM F n i)) ht (by
    show ofT (F i) (bwM F n i) (lsL F n (n - (i + 1))) (bwT F n i) = _
    unfold ofT; rw [if_neg (by rw [h2]; decide)]; exact congrArg some h3)
  intro e
  refine k ?_
  unfold ofT; rw [if_neg (by rw [hb]; decide), e]
end
end Go.Proofs.Ytjmdghkhapajiaa
