/- Chores played, in numbers. -/
import Derived.Test.YtnadedncjbibhaaPnM
import Derived.Test.YtnadedncjbibhaaTaB
namespace Go.Proofs.Ytnadedncjbibhaa
open Go.RowKit
/-- what has been played up to a tick: jobs done, ticks spent of the next one, the longest times, the slices -/
structure Pl where
  dn : Nat → Int
  sp : Nat → Int
  wo : Nat → Int
  m : Nat
  G : Nat → Int
/-- when the first job that is not done comes -/
def cmP (F f : Nat → Int) (s : Pl) (k : Nat) : Int := f k + s.dn k * F (k * 3)
def ugP (ur : Bool) (F f : Nat → Int) (s : Pl) (k : Nat) : Int := if ur then cmP F f s k + F (k * 3 + 2) else (k : Int)
/-- who of the first k gets the tick; -1: nobody -/
def chW (c u : Nat → Int) (t : Int) : Nat → Int
  | 0 => -1
  | k + 1 => if c k ≤ t ∧ (chW c u t k = -1 ∨ u k < u (chW c u t k).toNat) then (k : Int) else chW c u t k
theorem chW_bd (c u : Nat → Int) (t : Int) : ∀ k, -1 ≤ chW c u t k ∧ chW c u t k < (k : Int)
  | 0 => by simp [chW]
  | k + 1 => by
    have ih := chW_bd c u t k
    rw [chW]
    split <;> omega
theorem chW_came {c u : Nat → Int} {t : Int} : ∀ {k : Nat}, 0 ≤ chW c u t k → c (chW c u t k).toNat ≤ t
  | 0, h => by simp [chW] at h
  | k + 1, h => by
    rw [chW] at h ⊢
    split at h
    · rename_i h1
      rw [if_pos h1]
      simpa using h1.1
    · rename_i h1
      rw [if_neg h1]
      exact chW_came h
theorem chW_late {c u : Nat → Int} {t : Int} {k : Nat} (h : ¬ c k ≤ t) : chW c u t (k + 1) = chW c u t k := by
  rw [chW, if_neg (by intro h1; exact h h1.1)]
theorem chW_first {c u : Nat → Int} {t : Int} {k : Nat} (h : c k ≤ t) (h2 : chW c u t k = -1) : chW c u t (k + 1) = (k : Int) := by
  rw [chW, if_pos ⟨h, .inl h2⟩]
theorem chW_less {c u : Nat → Int} {t : Int} {k : Nat} (h : c k ≤ t) (h2 : u k < u (chW c u t k).toNat) : chW c u t (k + 1) = (k : Int) := by
  rw [chW, if_pos ⟨h, .inr h2⟩]
theorem chW_stay {c u : Nat → Int} {t : Int} {k : Nat} (h1 : ¬ chW c u t k = -1) (h2 : ¬ u k < u (chW c u t k).toNat) : chW c u t (k + 1) = chW c u t k := by
  rw [chW, if_neg (by rintro ⟨_, h | h⟩ <;> contradiction)]
/-- three numbers -/
def tri (a b c : Int) (i : Nat) : Int := if i = 0 then a else if i = 1 then b else c
/-- the last slice goes on -/
def sxB (m : Nat) (G : Nat → Int) (t who : Int) : Bool := decide (0 < m) && ((G ((m - 1) * 3 + 2) == who) && (G ((m - 1) * 3 + 1) == t))
def slM (m : Nat) (G : Nat → Int) (t who : Int) : Nat := if sxB m G t who then m else m + 1
def slG (m : Nat) (G : Nat → Int) (t who : Int) : Nat → Int := if sxB m G t who then put G ((m - 1) * 3 + 1) (t + 1) else apF G (m * 3) (tri t (t + 1) who)
/-- the job is done by this tick -/
def fiB (F : Nat → Int) (s : Pl) (k : Nat) : Bool := decide (F (k * 3 + 1) ≤ s.sp k + 1)
/-- chore k gets the tick -/
def gvP (F f : Nat → Int) (s : Pl) (t : Int) (k : Nat) : Pl where
  dn := if fiB F s k then put s.dn k (s.dn k + 1) else s.dn
  sp := if fiB F s k then put s.sp k 0 else put s.sp k (s.sp k + 1)
  wo := if fiB F s k then put s.wo k (max (s.wo k) (t + 1 - cmP F f s k)) else s.wo
  m := slM s.m s.G t (k : Int)
  G := slG s.m s.G t (k : Int)
/-- one tick -/
def whP (ur : Bool) (n : Nat) (F f : Nat → Int) (s : Pl) (t : Int) : Int := chW (cmP F f s) (ugP ur F f s) t n
def stP (ur : Bool) (n : Nat) (F f : Nat → Int) (s : Pl) (t : Int) : Pl := if whP ur n F f s t < 0 then s else gvP F f s t (whP ur n F f s t).toNat
def ruP (ur : Bool) (n : Nat) (F f : Nat → Int) : Nat → Pl
  | 0 => ⟨fun _ => 0, fun _ => 0, fun _ => 0, 0, fun _ => 0⟩
  | t + 1 => stP ur n F f (ruP ur n F f t) (t : Int)
/-- the first times are good -/
def gfK (f : Nat → Int) : Nat → Bool
  | 0 => true
  | k + 1 => gfK f k && decide (0 ≤ f k ∧ f k ≤ 60)
theorem gfK_no {f : Nat → Int} {n k : Nat} (hk : k < n) (h : ¬ (0 ≤ f k ∧ f k ≤ 60)) : gfK f n = false := by
  induction n with
  | zero => omega
  | succ n ih =>
    rw [gfK]
    by_cases e : k = n
    · subst e; rw [decide_eq_false h]; simp
    · rw [ih (by omega)]; rfl
theorem gfK_at {f : Nat → Int} {n k : Nat} (hk : k < n) (h : gfK f n = true) : 0 ≤ f k ∧ f k ≤ 60 := by
  by_cases e : 0 ≤ f k ∧ f k ≤ 60
  · exact e
  · rw [gfK_no hk e] at h; cases h
/-- what is played is within its limits -/
structure Pk (n : Nat) (F f : Nat → Int) (s : Pl) (t : Nat) : Prop where
  d0 : ∀ k, k < n → 0 ≤ s.dn k
  d1 : ∀ k, k < n → s.dn k ≤ (t : Int)
  s0 : ∀ k, k < n → 0 ≤ s.sp k
  s1 : ∀ k, k < n → s.sp k < F (k * 3 + 1)
  w0 : ∀ k, k < n → 0 ≤ s.wo k
  w1 : ∀ k, k < n → s.wo k ≤ (t : Int)
  mt : s.m ≤ t
theorem put_at (f : Nat → Int) (k : Nat) (v : Int) : put f k v k = v := by simp [put]
theorem put_ne {f : Nat → Int} {k i : Nat} {v : Int} (h : i ≠ k) : put f k v i = f i := by simp [put, h]
theorem cm_bd {n : Nat} {F f : Nat → Int} {s : Pl} {t k : Nat} (g : Gc n F) (hf : gfK f n = true) (p : Pk n F f s t) (ht : t ≤ 2000) (hk : k < n) : 0 ≤ cmP F f s k ∧ cmP F f s k ≤ 120060 ∧ 0 ≤ s.dn k * F (k * 3) ∧ s.dn k * F (k * 3) ≤ 120000 := by
  have h1 := gfK_at hk hf
  have h2 := p.d0 k hk
  have h3 := p.d1 k hk
  have h4 := g.p1 k hk
  have h5 := g.p2 k hk
  have a : 0 ≤ s.dn k * F (k * 3) := Int.mul_nonneg h2 (by omega)
  have b : s.dn k * F (k * 3) ≤ s.dn k * 60 := Int.mul_le_mul_of_nonneg_left h5 h2
  unfold cmP
  omega
theorem pk_start {n : Nat} {F : Nat → Int} (f : Nat → Int) (ur : Bool) (g : Gc n F) : Pk n F f (ruP ur n F f 0) 0 :=
  ⟨fun _ _ => Int.le_refl _, fun _ _ => Int.le_refl _, fun _ _ => Int.le_refl _, fun k hk => by have := g.n1 k hk; show (0 : Int) < _; omega, fun _ _ => Int.le_refl _, fun _ _ => Int.le_refl _, Nat.le_refl _⟩
theorem slM_le (m : Nat) (G : Nat → Int) (t who : Int) : slM m G t who ≤ m + 1 := by unfold slM; split <;> omega
theorem pk_give {n : Nat} {F f : Nat → Int} {s : Pl} {t k : Nat} (g : Gc n F) (hf : gfK f n = true) (p : Pk n F f s t) (ht : t ≤ 2000) (hk : k < n) (hc : cmP F f s k ≤ (t : Int)) : Pk n F f (gvP F f s (t : Int) k) (t + 1) := by
  have cb := (cm_bd g hf p ht hk).1
  have hm := slM_le s.m s.G (t : Int) (k : Int)
  have hpm := p.mt
  refine ⟨fun i hi => ?_, fun i hi => ?_, fun i hi => ?_, fun i hi => ?_, fun i hi => ?_, fun i hi => ?_, by show slM _ _ _ _ ≤ _; omega⟩
  all_goals
    have d0 := p.d0 i hi
    have d1 := p.d1 i hi
    have s0 := p.s0 i hi
    have s1 := p.s1 i hi
    have w0 := p.w0 i hi
    have w1 := p.w1 i hi
    have n1 := g.n1 i hi
    simp only [gvP, fiB, decide_eq_true_eq]
    by_cases hb : F (k * 3 + 1) ≤ s.sp k + 1
    · simp only [if_pos hb]
      by_cases e : i = k
      · subst e; simp only [put_at]; omega
      · simp only [put_ne e]; omega
    · simp only [if_neg hb]
      by_cases e : i = k
      · subst e; (try simp only [put_at]); omega
      · (try simp only [put_ne e]); omega
theorem pk_step {n : Nat} {F f : Nat → Int} {s : Pl} {t : Nat} (ur : Bool) (g : Gc n F) (hf : gfK f n = true) (p : Pk n F f s t) (ht : t ≤ 2000) : Pk n F f (stP ur n F f s (t : Int)) (t + 1) := by
  unfold stP
  split
  · exact ⟨p.d0, fun k hk => by have := p.d1 k hk; omega, p.s0, p.s1, p.w0, fun k hk => by have := p.w1 k hk; omega, by have := p.mt; omega⟩
  · rename_i h
    have b := chW_bd (cmP F f s) (ugP ur F f s) (t : Int) n
    have c := chW_came (c := cmP F f s) (u := ugP ur F f s) (t := (t : Int)) (k := n) (by unfold whP at h; omega)
    unfold whP at h ⊢
    exact pk_give g hf p ht (by omega) c
theorem pk_run {n : Nat} {F f : Nat → Int} (ur : Bool) (g : Gc n F) (hf : gfK f n = true) : ∀ t, t ≤ 2000 → Pk n F f (ruP ur n F f t) t
  | 0, _ => pk_start f ur g
  | t + 1, ht => pk_step ur g hf (pk_run ur g hf t (by omega)) (by omega)
end Go.Proofs.Ytnadedncjbibhaa
