/- Charts: states and arrows as numbers alone. g: the states' flat list (Parent, First), h: the arrows' (From, On, To). -/
import Derived.Test.YtjefakfongehdaaRInCore
namespace Go.Proofs.YtjefakfongehdaaR

/-- state i has a child among the first n -/
def kidB (n : Nat) (g : Nat → Int) (i : Nat) : Bool := (List.range n).any fun k => decide (g (k * 2) = (i : Int))
/-- the parent of state i is a good one -/
def parB (g : Nat → Int) (i : Nat) : Bool := if i = 0 then decide (g 0 = -1) else decide (0 ≤ g (i * 2)) && decide (g (i * 2) < (i : Int))
/-- the First of state i is a good one -/
def fstB (n : Nat) (g : Nat → Int) (i : Nat) : Bool :=
  if kidB n g i = true then decide (0 ≤ g (i * 2 + 1)) && decide (g (i * 2 + 1) < (n : Int)) && decide (g ((g (i * 2 + 1)).toNat * 2) = (i : Int)) else decide (g (i * 2 + 1) = -1)
def staB (n : Nat) (g : Nat → Int) (i : Nat) : Bool := parB g i && fstB n g i
def arwB (n : Nat) (h : Nat → Int) (k : Nat) : Bool :=
  decide (0 ≤ h (k * 3)) && decide (h (k * 3) < (n : Int)) && decide (0 ≤ h (k * 3 + 2)) && decide (h (k * 3 + 2) < (n : Int)) && decide (0 ≤ h (k * 3 + 1)) && decide (h (k * 3 + 1) < 6)
/-- what GoodChart tells -/
def gchB (n : Nat) (g : Nat → Int) (m : Nat) (h : Nat → Int) : Bool :=
  decide (1 ≤ n) && decide (n ≤ 12) && decide (m ≤ 24) && ((List.range n).all (staB n g) && (List.range m).all (arwB n h))

/-- what a good chart is -/
structure Gch (n : Nat) (g : Nat → Int) (m : Nat) (h : Nat → Int) : Prop where
  n1 : 1 ≤ n
  n12 : n ≤ 12
  m24 : m ≤ 24
  root : g 0 = -1
  par : ∀ i, 0 < i → i < n → 0 ≤ g (i * 2) ∧ g (i * 2) < (i : Int)
  kid : ∀ i, i < n → (∃ k, k < n ∧ g (k * 2) = (i : Int)) → 0 ≤ g (i * 2 + 1) ∧ g (i * 2 + 1) < (n : Int) ∧ g ((g (i * 2 + 1)).toNat * 2) = (i : Int)
  leaf : ∀ i, i < n → (¬ ∃ k, k < n ∧ g (k * 2) = (i : Int)) → g (i * 2 + 1) = -1
  arw : ∀ k, k < m → 0 ≤ h (k * 3) ∧ h (k * 3) < (n : Int) ∧ 0 ≤ h (k * 3 + 2) ∧ h (k * 3 + 2) < (n : Int) ∧ 0 ≤ h (k * 3 + 1) ∧ h (k * 3 + 1) < 6
theorem kidB_iff {n : Nat} {g : Nat → Int} {i : Nat} : kidB n g i = true ↔ ∃ k, k < n ∧ g (k * 2) = (i : Int) := by
  unfold kidB
  simp [List.any_eq_true]
theorem gchB_iff {n : Nat} {g : Nat → Int} {m : Nat} {h : Nat → Int} : gchB n g m h = true ↔ Gch n g m h := by
  unfold gchB
  simp only [Bool.and_eq_true, decide_eq_true_eq, List.all_eq_true, List.mem_range]
  constructor
  · rintro ⟨⟨⟨h1, h2⟩, h3⟩, h4, h5⟩
    refine ⟨h1, h2, h3, ?_, fun i h0 hi => ?_, fun i hi hk => ?_, fun i hi hk => ?_, fun k hk => ?_⟩
    · have := (h4 0 h1)
      unfold staB parB at this
      simp only [Bool.and_eq_true, if_true, decide_eq_true_eq] at this
      exact this.1
    · have := (h4 i hi)
      unfold staB parB at this
      rw [if_neg (by omega)] at this
      simp only [Bool.and_eq_true, decide_eq_true_eq] at this
      exact this.1
    · have := (h4 i hi)
      unfold staB fstB at this
      rw [if_pos (kidB_iff.2 hk)] at this
      simp only [Bool.and_eq_true, decide_eq_true_eq] at this
      exact ⟨this.2.1.1, this.2.1.2, this.2.2⟩
    · have := (h4 i hi)
      unfold staB fstB at this
      rw [if_neg (fun e => hk (kidB_iff.1 e))] at this
      simp only [Bool.and_eq_true, decide_eq_true_eq] at this
      exact this.2
    · have := h5 k hk
      unfold arwB at this
      simp only [Bool.and_eq_true, decide_eq_true_eq] at this
      obtain ⟨⟨⟨⟨⟨a, b⟩, c⟩, d⟩, e⟩, f⟩ := this
      exact ⟨a, b, c, d, e, f⟩
  · intro H
    refine ⟨⟨⟨H.n1, H.n12⟩, H.m24⟩, fun i hi => ?_, fun k hk => ?_⟩
    · unfold staB
      rw [Bool.and_eq_true]
      refine ⟨?_, ?_⟩
      · unfold parB
        by_cases e : i = 0
        · rw [if_pos e]; exact decide_eq_true H.root
        · rw [if_neg e]
          have := H.par i (by omega) hi
          simp [this.1, this.2]
      · unfold fstB
        by_cases e : kidB n g i = true
        · rw [if_pos e]
          have := H.kid i hi (kidB_iff.1 e)
          simp only [Bool.and_eq_true, decide_eq_true_eq]
          exact ⟨⟨this.1, this.2.1⟩, this.2.2⟩
        · rw [if_neg e]
          exact decide_eq_true (H.leaf i hi fun k => e (kidB_iff.2 k))
    · have := H.arw k hk
      unfold arwB
      simp only [Bool.and_eq_true, decide_eq_true_eq]
      exact ⟨⟨⟨⟨⟨this.1, this.2.1⟩, this.2.2.1⟩, this.2.2.2.1⟩, this.2.2.2.2.1⟩, this.2.2.2.2.2⟩

/-- the leaf that a state's Firsts lead to -/
def entF (g : Nat → Int) : Nat → Nat → Nat
  | 0, s => s
  | q + 1, s => if 0 ≤ g (s * 2 + 1) then entF g q (g (s * 2 + 1)).toNat else s
def ent (n : Nat) (g : Nat → Int) (s : Nat) : Nat := entF g n s
section
variable {n : Nat} {g : Nat → Int} {m : Nat} {h : Nat → Int}
/-- a First lies behind its state -/
theorem Gch.first (H : Gch n g m h) {s : Nat} (hs : s < n) (h0 : 0 ≤ g (s * 2 + 1)) : s < (g (s * 2 + 1)).toNat ∧ (g (s * 2 + 1)).toNat < n ∧ (((g (s * 2 + 1)).toNat : Nat) : Int) = g (s * 2 + 1) := by
  have hk : ∃ k, k < n ∧ g (k * 2) = (s : Int) := Classical.byContradiction fun e => by
    have := H.leaf s hs e
    omega
  obtain ⟨h1, h2, h3⟩ := H.kid s hs hk
  refine ⟨?_, by omega, by omega⟩
  generalize ht : (g (s * 2 + 1)).toNat = t at h3
  have htn : t < n := by omega
  by_cases e : t = 0
  · subst e
    have h9 : g (0 * 2) = g 0 := rfl
    rw [h9, H.root] at h3
    omega
  · have := (H.par t (by omega) htn).2
    omega
theorem Gch.entF_eq (H : Gch n g m h) : ∀ (q q' s : Nat), s < n → n ≤ s + q → n ≤ s + q' → entF g q s = entF g q' s := by
  intro q
  induction q with
  | zero => intro q' s hs h1 _; omega
  | succ q ih =>
    intro q' s hs h1 h2
    cases q' with
    | zero => omega
    | succ q' =>
      unfold entF
      by_cases e : 0 ≤ g (s * 2 + 1)
      · rw [if_pos e, if_pos e]
        have := H.first hs e
        exact ih q' _ this.2.1 (by omega) (by omega)
      · rw [if_neg e, if_neg e]
theorem Gch.ent_go (H : Gch n g m h) {s : Nat} (hs : s < n) (h0 : 0 ≤ g (s * 2 + 1)) : ent n g s = ent n g (g (s * 2 + 1)).toNat := by
  have hf := H.first hs h0
  unfold ent
  obtain ⟨q, hq⟩ : ∃ q, n = q + 1 := ⟨n - 1, by omega⟩
  have e1 : entF g n s = entF g q (g (s * 2 + 1)).toNat := by rw [hq]; exact if_pos h0
  rw [e1]
  exact H.entF_eq _ _ _ hf.2.1 (by omega) (by omega)
theorem Gch.ent_end (H : Gch n g m h) {s : Nat} (h0 : ¬ 0 ≤ g (s * 2 + 1)) : ent n g s = s := by
  have := H.n1
  unfold ent
  obtain ⟨q, hq⟩ : ∃ q, n = q + 1 := ⟨n - 1, by omega⟩
  rw [hq]; exact if_neg h0
theorem Gch.ent_lt (H : Gch n g m h) : ∀ (q s : Nat), n ≤ s + q → s < n → ent n g s < n ∧ g (ent n g s * 2 + 1) = -1 := by
  intro q
  induction q with
  | zero => intro s h1 h2; omega
  | succ q ih =>
    intro s h1 h2
    by_cases e : 0 ≤ g (s * 2 + 1)
    · have hf := H.first h2 e
      rw [H.ent_go h2 e]
      exact ih _ (by omega) hf.2.1
    · rw [H.ent_end e]
      refine ⟨h2, H.leaf s h2 fun hk => ?_⟩
      exact e (H.kid s h2 hk).1
theorem Gch.ent_leaf (H : Gch n g m h) {s : Nat} (hs : s < n) : ent n g s < n ∧ g (ent n g s * 2 + 1) = -1 := H.ent_lt n s (by omega) hs

/-- the first arrow of state s on event e -/
def arrowOf (m : Nat) (h : Nat → Int) (s e : Int) : Option Nat := (List.range m).find? fun k => decide (h (k * 3) = s) && decide (h (k * 3 + 1) = e)
/-- where a leaf steps to, seen from state s upwards -/
def stepF (n : Nat) (g : Nat → Int) (m : Nat) (h : Nat → Int) (leaf : Nat) (e : Int) : Nat → Nat → Nat
  | 0, _ => leaf
  | q + 1, s => match arrowOf m h (s : Int) e with
    | some k => ent n g (h (k * 3 + 2)).toNat
    | none => if 0 ≤ g (s * 2) then stepF n g m h leaf e q (g (s * 2)).toNat else leaf
def stepC (n : Nat) (g : Nat → Int) (m : Nat) (h : Nat → Int) (leaf : Nat) (e : Int) : Nat := stepF n g m h leaf e n leaf
theorem arrowOf_some {s e : Int} {k : Nat} (hk : arrowOf m h s e = some k) : k < m ∧ h (k * 3) = s ∧ h (k * 3 + 1) = e := by
  have h1 := List.find?_some hk
  have h2 := List.mem_of_find?_eq_some hk
  simp only [Bool.and_eq_true, decide_eq_true_eq] at h1
  exact ⟨List.mem_range.1 h2, h1.1, h1.2⟩
/-- a parent lies ahead of its state -/
theorem Gch.up (H : Gch n g m h) {s : Nat} (hs : s < n) (h0 : 0 ≤ g (s * 2)) : (g (s * 2)).toNat < s ∧ (((g (s * 2)).toNat : Nat) : Int) = g (s * 2) := by
  by_cases e : s = 0
  · subst e
    have h9 : g (0 * 2) = g 0 := rfl
    rw [h9, H.root] at h0
    omega
  · have := (H.par s (by omega) hs).2
    omega
theorem Gch.stepF_eq (H : Gch n g m h) (leaf : Nat) (e : Int) : ∀ (q q' s : Nat), s < n → s < q → s < q' → stepF n g m h leaf e q s = stepF n g m h leaf e q' s := by
  intro q
  induction q with
  | zero => intro q' s _ h1 _; omega
  | succ q ih =>
    intro q' s hs h1 h2
    cases q' with
    | zero => omega
    | succ q' =>
      unfold stepF
      cases arrowOf m h (s : Int) e with
      | some k => rfl
      | none =>
        by_cases e0 : 0 ≤ g (s * 2)
        · have := H.up hs e0
          simp only [if_pos e0]
          exact ih q' _ (by omega) (by omega) (by omega)
        · simp only [if_neg e0]
theorem Gch.stepF_lt (H : Gch n g m h) {leaf : Nat} (e : Int) (hl : leaf < n) (hlf : g (leaf * 2 + 1) = -1) : ∀ (q s : Nat), s < n → stepF n g m h leaf e q s < n ∧ g (stepF n g m h leaf e q s * 2 + 1) = -1 := by
  intro q
  induction q with
  | zero => intro s _; exact ⟨hl, hlf⟩
  | succ q ih =>
    intro s hs
    unfold stepF
    cases ha : arrowOf m h (s : Int) e with
    | some k =>
      have hk := (arrowOf_some ha).1
      have := H.arw k hk
      exact H.ent_leaf (by omega)
    | none =>
      by_cases e0 : 0 ≤ g (s * 2)
      · have := H.up hs e0
        simp only [if_pos e0]
        exact ih _ (by omega)
      · simp only [if_neg e0]
        exact ⟨hl, hlf⟩
/-- a step leads from leaf to leaf -/
theorem Gch.step_leaf (H : Gch n g m h) {leaf : Nat} (e : Int) (hl : leaf < n) (hlf : g (leaf * 2 + 1) = -1) : stepC n g m h leaf e < n ∧ g (stepC n g m h leaf e * 2 + 1) = -1 := H.stepF_lt e hl hlf n leaf hl

/-- what ChartStep tells -/
def stepV (n : Nat) (g : Nat → Int) (m : Nat) (h : Nat → Int) (leaf e : Int) : Int :=
  if gchB n g m h = true ∧ 0 ≤ leaf ∧ leaf < (n : Int) ∧ g (leaf.toNat * 2 + 1) = -1 ∧ 0 ≤ e ∧ e < 6 then (stepC n g m h leaf.toNat e : Nat) else -1
/-- what EnterState tells -/
def enterV (n : Nat) (g : Nat → Int) (m : Nat) (h : Nat → Int) (s : Int) : Int :=
  if gchB n g m h = true ∧ 0 ≤ s ∧ s < (n : Int) then (ent n g s.toNat : Nat) else -1
/-- the run behind k events -/
def runC (n : Nat) (g : Nat → Int) (m : Nat) (h : Nat → Int) (ev : Nat → Int) : Nat → Nat
  | 0 => ent n g 0
  | k + 1 => stepC n g m h (runC n g m h ev k) (ev k)
theorem Gch.run_leaf (H : Gch n g m h) (ev : Nat → Int) : ∀ k, runC n g m h ev k < n ∧ g (runC n g m h ev k * 2 + 1) = -1 := by
  intro k
  induction k with
  | zero => exact H.ent_leaf H.n1
  | succ k ih => exact H.step_leaf _ ih.1 ih.2
end
end Go.Proofs.YtjefakfongehdaaR
