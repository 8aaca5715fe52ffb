/- Chapter 25 in numbers: good chores, what is asked for, cycles, answer times. -/
import Derived.Test.YtnadedncjbibhaaLqBase
namespace Go.Proofs.Ytnadedncjbibhaa
open Go.RowKit
/-- is one chore good -/
def gcB (p n d : Int) : Bool := decide (1 ≤ p ∧ p ≤ 60 ∧ 1 ≤ n ∧ n ≤ p ∧ n ≤ d ∧ d ≤ p)
def gcK (F : Nat → Int) : Nat → Bool
  | 0 => true
  | k + 1 => gcK F k && gcB (F (k * 3)) (F (k * 3 + 1)) (F (k * 3 + 2))
def gcV (n : Nat) (F : Nat → Int) : Bool := decide (1 ≤ n ∧ n ≤ 6) && gcK F n
/-- the chores are good, as numbers -/
structure Gc (n : Nat) (F : Nat → Int) : Prop where
  one : 1 ≤ n
  six : n ≤ 6
  p1 : ∀ k, k < n → 1 ≤ F (k * 3)
  p2 : ∀ k, k < n → F (k * 3) ≤ 60
  n1 : ∀ k, k < n → 1 ≤ F (k * 3 + 1)
  n2 : ∀ k, k < n → F (k * 3 + 1) ≤ F (k * 3)
  d1 : ∀ k, k < n → F (k * 3 + 1) ≤ F (k * 3 + 2)
  d2 : ∀ k, k < n → F (k * 3 + 2) ≤ F (k * 3)
theorem gcK_no {F : Nat → Int} {n k : Nat} (hk : k < n) (h : gcB (F (k * 3)) (F (k * 3 + 1)) (F (k * 3 + 2)) = false) : gcK F n = false := by
  induction n with
  | zero => omega
  | succ n ih =>
    rw [gcK]
    by_cases e : k = n
    · subst e; rw [h]; simp
    · rw [ih (by omega)]; rfl
theorem gcK_at {F : Nat → Int} {n k : Nat} (hk : k < n) (h : gcK F n = true) : gcB (F (k * 3)) (F (k * 3 + 1)) (F (k * 3 + 2)) = true := by
  cases e : gcB (F (k * 3)) (F (k * 3 + 1)) (F (k * 3 + 2)) with
  | true => rfl
  | false => rw [gcK_no hk e] at h; cases h
theorem gcV_gc {n : Nat} {F : Nat → Int} (h : gcV n F = true) : Gc n F := by
  unfold gcV at h
  rw [Bool.and_eq_true, decide_eq_true_eq] at h
  obtain ⟨⟨h1, h2⟩, hk⟩ := h
  have g : ∀ k, k < n → _ := fun k hk2 => of_decide_eq_true (gcK_at hk2 hk)
  exact ⟨h1, h2, fun k a => (g k a).1, fun k a => (g k a).2.1, fun k a => (g k a).2.2.1, fun k a => (g k a).2.2.2.1, fun k a => (g k a).2.2.2.2.1, fun k a => (g k a).2.2.2.2.2⟩
/-- what one chore asks for up to t -/
def dm1 (t p n d : Int) : Int := if d ≤ t then n * ((t - d) / p + 1) else 0
def dmK (F : Nat → Int) (t : Int) : Nat → Int
  | 0 => 0
  | k + 1 => dmK F t k + dm1 t (F (k * 3)) (F (k * 3 + 1)) (F (k * 3 + 2))
theorem quo_bd {t p : Int} (h0 : 0 ≤ t) (hp : 1 ≤ p) : 0 ≤ t / p ∧ t / p ≤ t := by
  have h1 : 0 ≤ t / p := Int.ediv_nonneg h0 (by omega)
  have h2 : t / p * p ≤ t := Int.ediv_mul_le t (by omega)
  refine ⟨h1, ?_⟩
  have h3 : t / p * 1 ≤ t / p * p := Int.mul_le_mul_of_nonneg_left hp h1
  omega
theorem dm1_bd {t p n d : Int} (ht : t ≤ 2000000) (hp : 1 ≤ p) (hn : 1 ≤ n) (hn2 : n ≤ 60) (hd : 1 ≤ d) : 0 ≤ dm1 t p n d ∧ dm1 t p n d ≤ 120000060 := by
  unfold dm1
  split
  · obtain ⟨a, b⟩ := quo_bd (t := t - d) (p := p) (by omega) hp
    have h1 : 0 ≤ n * ((t - d) / p + 1) := Int.mul_nonneg (by omega) (by omega)
    have h2 : n * ((t - d) / p + 1) ≤ 60 * ((t - d) / p + 1) := Int.mul_le_mul_of_nonneg_right hn2 (by omega)
    omega
  · omega
theorem dmK_bd {F : Nat → Int} {n : Nat} (g : Gc n F) {t : Int} (ht : t ≤ 2000000) : ∀ k, k ≤ n → 0 ≤ dmK F t k ∧ dmK F t k ≤ (k : Int) * 120000060
  | 0, _ => by simp [dmK]
  | k + 1, hk => by
    have ih := dmK_bd g ht k (by omega)
    have a := dm1_bd (t := t) (p := F (k * 3)) (n := F (k * 3 + 1)) (d := F (k * 3 + 2)) ht (g.p1 k (by omega)) (g.n1 k (by omega)) (by have := g.n2 k (by omega); have := g.p2 k (by omega); omega) (by have := g.n1 k (by omega); have := g.d1 k (by omega); omega)
    rw [dmK]
    omega
/-- the least common multiple so far -/
def cyK (F : Nat → Int) : Nat → Nat
  | 0 => 1
  | k + 1 => cyK F k / Nat.gcd (cyK F k) (F (k * 3)).toNat * (F (k * 3)).toNat
theorem cy_step {a p : Nat} (hp : 1 ≤ p) : a ≤ a / Nat.gcd a p * p ∧ a / Nat.gcd a p * p ≤ a * p := by
  have hd : Nat.gcd a p ∣ a := Nat.gcd_dvd_left a p
  have hg : 0 < Nat.gcd a p := Nat.gcd_pos_of_pos_right a (by omega)
  have hle : Nat.gcd a p ≤ p := Nat.gcd_le_right a (by omega)
  refine ⟨?_, Nat.mul_le_mul_right p (Nat.div_le_self a _)⟩
  have h1 : a / Nat.gcd a p * Nat.gcd a p = a := Nat.div_mul_cancel hd
  have h2 : a / Nat.gcd a p * Nat.gcd a p ≤ a / Nat.gcd a p * p := Nat.mul_le_mul_left _ hle
  omega
theorem cyK_up {F : Nat → Int} {n : Nat} (hp : ∀ k, k < n → 1 ≤ F (k * 3)) {k : Nat} (hk : k ≤ n) : cyK F k ≤ cyK F n := by
  induction n with
  | zero => have : k = 0 := by omega
            subst this; exact Nat.le_refl _
  | succ n ih =>
    by_cases e : k = n + 1
    · subst e; exact Nat.le_refl _
    · have a := ih (fun k h => hp k (by omega)) (by omega)
      have b := (cy_step (a := cyK F n) (p := (F (n * 3)).toNat) (by have := hp n (by omega); omega)).1
      rw [cyK]; omega
theorem cyK_pos {F : Nat → Int} {n : Nat} (hp : ∀ k, k < n → 1 ≤ F (k * 3)) : 1 ≤ cyK F n := by
  have := cyK_up hp (Nat.zero_le n)
  rw [cyK] at this; omega
theorem cyK_bd {F : Nat → Int} {n : Nat} (g : Gc n F) : ∀ k, k ≤ n → cyK F k ≤ 60 ^ k
  | 0, _ => by simp [cyK]
  | k + 1, hk => by
    have ih := cyK_bd g k (by omega)
    have b := (cy_step (a := cyK F k) (p := (F (k * 3)).toNat) (by have := g.p1 k (by omega); omega)).2
    have c : (F (k * 3)).toNat ≤ 60 := by have := g.p2 k (by omega); omega
    rw [cyK, Nat.pow_succ]
    exact Nat.le_trans b (Nat.mul_le_mul ih c)
/-- what all jobs of the first k chores need that come ahead of r -/
def sn1 (r p n : Int) : Int := n * ((r + p - 1) / p)
def snK (F : Nat → Int) (r : Int) : Nat → Int
  | 0 => 0
  | k + 1 => snK F r k + sn1 r (F (k * 3)) (F (k * 3 + 1))
theorem sn1_bd {r p n : Int} (h0 : 0 ≤ r) (hr : r ≤ 30000) (hp : 1 ≤ p) (hp2 : p ≤ 60) (hn : 1 ≤ n) (hn2 : n ≤ 60) : 0 ≤ sn1 r p n ∧ sn1 r p n ≤ 1803600 := by
  unfold sn1
  obtain ⟨a, b⟩ := quo_bd (t := r + p - 1) (p := p) (by omega) hp
  have h1 : 0 ≤ n * ((r + p - 1) / p) := Int.mul_nonneg (by omega) (by omega)
  have h2 : n * ((r + p - 1) / p) ≤ 60 * ((r + p - 1) / p) := Int.mul_le_mul_of_nonneg_right hn2 (by omega)
  omega
theorem snK_bd {F : Nat → Int} {n : Nat} (g : Gc n F) {r : Int} (h0 : 0 ≤ r) (hr : r ≤ 30000) : ∀ k, k ≤ n → 0 ≤ snK F r k ∧ snK F r k ≤ (k : Int) * 1803600
  | 0, _ => by simp [snK]
  | k + 1, hk => by
    have ih := snK_bd g h0 hr k (by omega)
    have a := sn1_bd (r := r) (p := F (k * 3)) (n := F (k * 3 + 1)) h0 hr (g.p1 k (by omega)) (g.p2 k (by omega)) (g.n1 k (by omega)) (by have := g.n2 k (by omega); have := g.p2 k (by omega); omega)
    rw [snK]
    omega
theorem snK_up {F : Nat → Int} {n : Nat} (g : Gc n F) {r s : Int} (h : r ≤ s) : ∀ k, k ≤ n → snK F r k ≤ snK F s k
  | 0, _ => by simp [snK]
  | k + 1, hk => by
    have ih := snK_up g h k (by omega)
    have a : (r + F (k * 3) - 1) / F (k * 3) ≤ (s + F (k * 3) - 1) / F (k * 3) := Int.ediv_le_ediv (by have := g.p1 k (by omega); omega) (by omega)
    have b : sn1 r (F (k * 3)) (F (k * 3 + 1)) ≤ sn1 s (F (k * 3)) (F (k * 3 + 1)) := Int.mul_le_mul_of_nonneg_left a (by have := g.n1 k (by omega); omega)
    rw [snK, snK]
    omega
/-- what is asked of chore i within r -/
def asK (F : Nat → Int) (i : Nat) (r : Int) : Int := F (i * 3 + 1) + snK F r i
/-- r is the answer time of chore i, up to its Due -/
structure AtIs (F : Nat → Int) (i : Nat) (v : Int) : Prop where
  told : v ≠ -1 → F (i * 3 + 1) ≤ v ∧ v ≤ F (i * 3 + 2) ∧ asK F i v = v ∧ ∀ r, F (i * 3 + 1) ≤ r → r < v → asK F i r ≠ r
  none : v = -1 → ∀ r, F (i * 3 + 1) ≤ r → r ≤ F (i * 3 + 2) → asK F i r ≠ r
theorem AtIs.uniq {F : Nat → Int} {i : Nat} {v u : Int} (a : AtIs F i v) (b : AtIs F i u) : v = u := by
  by_cases h1 : v = -1
  · by_cases h2 : u = -1
    · omega
    · obtain ⟨x1, x2, x3, _⟩ := b.told h2
      exact absurd x3 (a.none h1 u x1 x2)
  · obtain ⟨x1, x2, x3, x4⟩ := a.told h1
    by_cases h2 : u = -1
    · exact absurd x3 (b.none h2 v x1 x2)
    · obtain ⟨y1, y2, y3, y4⟩ := b.told h2
      rcases Int.lt_trichotomy v u with h | h | h
      · exact absurd x3 (y4 v x1 h)
      · exact h
      · exact absurd y3 (x4 u y1 h)
/-- no time from Need on and below r is one -/
def NoAt (F : Nat → Int) (i : Nat) (r : Int) : Prop := ∀ s, F (i * 3 + 1) ≤ s → s < r → asK F i s ≠ s
theorem noAt_start (F : Nat → Int) (i : Nat) : NoAt F i (F (i * 3 + 1)) := fun s h1 h2 => by omega
theorem noAt_next {F : Nat → Int} {i : Nat} {r : Int} (h : NoAt F i r) (hne : asK F i r ≠ r) : NoAt F i (r + 1) := fun s h1 h2 => by
  by_cases e : s = r
  · rw [e]; exact hne
  · exact h s h1 (by omega)
theorem noAt_jump {F : Nat → Int} {n i : Nat} (g : Gc n F) (hi : i < n) {r : Int} (h : NoAt F i r) : NoAt F i (asK F i r) := fun s h1 h2 => by
  by_cases e : s < r
  · exact h s h1 e
  · have := snK_up g (show r ≤ s by omega) i (by omega)
    unfold asK at *
    omega
theorem asK_up {F : Nat → Int} {n i : Nat} (g : Gc n F) (hi : i < n) {r s : Int} (h : r ≤ s) : asK F i r ≤ asK F i s := by
  have := snK_up g h i (by omega)
  unfold asK; omega
theorem atIs_told {F : Nat → Int} {i : Nat} {r : Int} (h : NoAt F i r) (h0 : 1 ≤ F (i * 3 + 1)) (h1 : F (i * 3 + 1) ≤ r) (h2 : r ≤ F (i * 3 + 2)) (h3 : asK F i r = r) : AtIs F i r :=
  ⟨fun _ => ⟨h1, h2, h3, h⟩, fun e => by omega⟩
theorem atIs_none {F : Nat → Int} {i : Nat} {r : Int} (h : NoAt F i r) (h2 : F (i * 3 + 2) < r) : AtIs F i (-1) :=
  ⟨fun e => absurd rfl e, fun _ s a b => h s a (by omega)⟩
end Go.Proofs.Ytnadedncjbibhaa
