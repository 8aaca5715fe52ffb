/- Ids on a wire, bit by bit: who is still in, and at which bit the others left. -/
import Derived.Test.YtldagjgpapnfpaaQInCore
namespace Go.Proofs.Ytldagjgpapnfpaa
open Go.RowKit

/-- bit b of an id of eleven bits, the highest first -/
def ib (x : Int) (b : Nat) : Int := x / 2 ^ (10 - b) % 2
theorem ib_bd (x : Int) (b : Nat) : ib x b = 0 ∨ ib x b = 1 := by unfold ib; omega
/-- one of the first k that are in puts a 0 -/
def lowB (f L : Nat → Int) (b : Nat) : Nat → Bool
  | 0 => false
  | k + 1 => lowB f L b k || (decide (L k = -1) && decide (ib (f k) b = 0))
theorem lowB_iff (f L : Nat → Int) (b k : Nat) : lowB f L b k = true ↔ ∃ i, i < k ∧ L i = -1 ∧ ib (f i) b = 0 := by
  induction k with
  | zero => simp [lowB]
  | succ k ih =>
    unfold lowB
    rw [Bool.or_eq_true, ih, Bool.and_eq_true, decide_eq_true_eq, decide_eq_true_eq]
    constructor
    · rintro (⟨i, h, k1⟩ | k1)
      · exact ⟨i, by omega, k1⟩
      · exact ⟨k, by omega, k1⟩
    · rintro ⟨i, h, k1⟩
      rcases Nat.lt_or_eq_of_le (Nat.le_of_lt_succ h) with h | rfl
      · exact .inl ⟨i, h, k1⟩
      · exact .inr k1
/-- where each left: -1 for those that are in, once b bits went by -/
def lv (n : Nat) (f : Nat → Int) : Nat → Nat → Int
  | 0, _ => -1
  | b + 1, i => if lv n f b i = -1 ∧ lowB f (lv n f b) b n = true ∧ ib (f i) b = 1 then (b : Int) else lv n f b i
theorem lv_bd (n : Nat) (f : Nat → Int) (b i : Nat) : lv n f b i = -1 ∨ (0 ≤ lv n f b i ∧ lv n f b i < (b : Int)) := by
  induction b with
  | zero => exact .inl rfl
  | succ b ih =>
    unfold lv
    split
    · right; omega
    · omega
/-- somebody is in at any time -/
theorem lv_alive (n : Nat) (f : Nat → Int) (hn : 0 < n) (b : Nat) : ∃ i, i < n ∧ lv n f b i = -1 := by
  induction b with
  | zero => exact ⟨0, hn, rfl⟩
  | succ b ih =>
    cases hl : lowB f (lv n f b) b n with
    | true =>
      obtain ⟨i, hi, h1, h2⟩ := (lowB_iff f (lv n f b) b n).1 hl
      refine ⟨i, hi, ?_⟩
      unfold lv
      rw [if_neg (by rintro ⟨_, _, h⟩; omega)]
      exact h1
    | false =>
      obtain ⟨i, hi, h1⟩ := ih
      refine ⟨i, hi, ?_⟩
      unfold lv
      rw [if_neg (by rintro ⟨_, h, _⟩; rw [hl] at h; cases h)]
      exact h1
/-- the first that is in -/
def Fst (L : Nat → Int) (n k : Nat) : Prop := k < n ∧ L k = -1 ∧ ∀ j, j < k → L j ≠ -1
theorem Fst.uniq {L : Nat → Int} {n k m : Nat} (h : Fst L n k) (g : Fst L n m) : k = m := by
  rcases Nat.lt_trichotomy k m with c | c | c
  · exact absurd h.2.1 (g.2.2 k c)
  · exact c
  · exact absurd g.2.1 (h.2.2 m c)
theorem Fst.some {L : Nat → Int} {n : Nat} (h : ∃ i, i < n ∧ L i = -1) : ∃ k, Fst L n k := by
  suffices H : ∀ m, m ≤ n → (∃ k, Fst L n k) ∨ ∀ j, j < m → L j ≠ -1 by
    rcases H n (Nat.le_refl _) with h1 | h1
    · exact h1
    · obtain ⟨i, hi, e⟩ := h
      exact absurd e (h1 i hi)
  intro m
  induction m with
  | zero => intro _; exact .inr (fun j h => absurd h (Nat.not_lt_zero _))
  | succ m ih =>
    intro hm
    rcases ih (by omega) with h1 | h1
    · exact .inl h1
    · by_cases c : L m = -1
      · exact .inl ⟨m, by omega, c, h1⟩
      · refine .inr fun j hj => ?_
        rcases Nat.lt_or_eq_of_le (Nat.le_of_lt_succ hj) with h2 | rfl
        · exact h1 j h2
        · exact c

theorem ib_step (x : Int) (b : Nat) (hb : b ≤ 10) : x / 2 ^ (10 - b) = 2 * (x / 2 ^ (11 - b)) + ib x b := by
  have e : (11 - b : Nat) = (10 - b) + 1 := by omega
  unfold ib
  rw [e, Int.pow_succ, ← Int.ediv_ediv_of_nonneg (Int.pow_nonneg (by omega))]
  omega
/-- who is in once b bits went by has the first b bits of whoever is left in the end; who has left did so at the first bit that differs, and is greater there -/
theorem lv_inv (n : Nat) (f : Nat → Int) (hf : ∀ i, i < n → 0 ≤ f i ∧ f i ≤ 2047) (k : Nat) (hk : k < n) (b : Nat) (hb : b ≤ 11) (ha : lv n f b k = -1) (i : Nat) (hi : i < n) :
    (lv n f b i = -1 ∧ f i / 2 ^ (11 - b) = f k / 2 ^ (11 - b)) ∨ (∃ c : Nat, c < b ∧ lv n f b i = (c : Int) ∧ f i / 2 ^ (11 - c) = f k / 2 ^ (11 - c) ∧ ib (f i) c = 1 ∧ ib (f k) c = 0) := by
  induction b with
  | zero =>
    left
    refine ⟨rfl, ?_⟩
    have h1 := hf i hi
    have h2 := hf k hk
    show f i / 2 ^ 11 = f k / 2 ^ 11
    omega
  | succ b ih =>
    have hk2 : lv n f b k = -1 ∧ ¬ (lowB f (lv n f b) b n = true ∧ ib (f k) b = 1) := by
      unfold lv at ha
      split at ha
      · omega
      · rename_i h2
        exact ⟨ha, fun h3 => h2 ⟨ha, h3⟩⟩
    rcases ih (by omega) hk2.1 with ⟨h1, h2⟩ | ⟨c, h1, h2, h3⟩
    · by_cases hc : lowB f (lv n f b) b n = true ∧ ib (f i) b = 1
      · right
        refine ⟨b, by omega, ?_, h2, hc.2, ?_⟩
        · unfold lv; rw [if_pos ⟨h1, hc⟩]
        · rcases ib_bd (f k) b with h | h
          · exact h
          · exact absurd ⟨hc.1, h⟩ hk2.2
      · left
        have e : lv n f (b + 1) i = -1 := by
          unfold lv; rw [if_neg (by rintro ⟨_, h⟩; exact hc h)]; exact h1
        refine ⟨e, ?_⟩
        have s1 := ib_step (f i) b (by omega)
        have s2 := ib_step (f k) b (by omega)
        have s3 : (11 - (b + 1) : Nat) = 10 - b := by omega
        rw [s3, s1, s2, h2]
        have : ib (f i) b = ib (f k) b := by
          cases hl : lowB f (lv n f b) b n with
          | true =>
            have a1 : ¬ ib (f i) b = 1 := fun h => hc ⟨hl, h⟩
            have a2 : ¬ ib (f k) b = 1 := fun h => hk2.2 ⟨hl, h⟩
            have := ib_bd (f i) b
            have := ib_bd (f k) b
            omega
          | false =>
            have a1 : ¬ ib (f i) b = 0 := fun h => by
              have := (lowB_iff f (lv n f b) b n).2 ⟨i, hi, h1, h⟩
              rw [hl] at this; cases this
            have a2 : ¬ ib (f k) b = 0 := fun h => by
              have := (lowB_iff f (lv n f b) b n).2 ⟨k, hk, hk2.1, h⟩
              rw [hl] at this; cases this
            have := ib_bd (f i) b
            have := ib_bd (f k) b
            omega
        rw [this]
    · right
      refine ⟨c, by omega, ?_, h3⟩
      unfold lv; rw [if_neg (by rintro ⟨h, _⟩; omega)]; exact h2
/-- alike in their first bits, alike in each of these -/
theorem ib_of_pre (x y : Int) (c : Nat) (hc : c ≤ 11) (h : x / 2 ^ (11 - c) = y / 2 ^ (11 - c)) (d : Nat) (hd : d < c) : ib x d = ib y d := by
  have e : (10 - d : Nat) = (11 - c) + (c - 1 - d) := by omega
  unfold ib
  rw [e, Int.pow_add, ← Int.ediv_ediv_of_nonneg (Int.pow_nonneg (by omega)), ← Int.ediv_ediv_of_nonneg (Int.pow_nonneg (by omega)), h]
/-- at which bit x differs from y first, of the bits ahead of the q-th -/
def dfK (x y : Int) : Nat → Int
  | 0 => -1
  | q + 1 => if dfK x y q = -1 then (if ib x q = ib y q then -1 else (q : Int)) else dfK x y q
theorem dfK_same (x y : Int) (q : Nat) (h : ∀ d, d < q → ib x d = ib y d) : dfK x y q = -1 := by
  induction q with
  | zero => rfl
  | succ q ih =>
    unfold dfK
    rw [if_pos (ih fun d hd => h d (by omega)), if_pos (h q (by omega))]
theorem dfK_at (x y : Int) (q c : Nat) (hc : c < q) (h : ∀ d, d < c → ib x d = ib y d) (hn : ib x c ≠ ib y c) : dfK x y q = (c : Int) := by
  induction q with
  | zero => omega
  | succ q ih =>
    unfold dfK
    rcases Nat.lt_or_eq_of_le (Nat.le_of_lt_succ hc) with h1 | rfl
    · rw [ih h1, if_neg (by omega)]
    · rw [if_pos (dfK_same x y c h), if_neg hn]
/-- the first of the least is left, and who leaves does so at the first bit that differs -/
theorem least_first (n : Nat) (f : Nat → Int) (hf : ∀ i, i < n → 0 ≤ f i ∧ f i ≤ 2047) (k : Nat) (h : Fst (lv n f 11) n k) (i : Nat) (hi : i < n) :
    f k ≤ f i ∧ ¬ (f i = f k ∧ i < k) ∧ lv n f 11 i = dfK (f i) (f k) 11 := by
  rcases lv_inv n f hf k h.1 11 (by omega) h.2.1 i hi with ⟨h1, h2⟩ | ⟨c, h1, h2, h3, h4, h5⟩
  · have e : f i = f k := by
      have h2' : f i / 2 ^ 0 = f k / 2 ^ 0 := h2
      simpa using h2'
    refine ⟨by omega, ?_, ?_⟩
    · rintro ⟨_, hik⟩
      exact h.2.2 i hik h1
    · rw [h1, e, dfK_same _ _ _ (fun _ _ => rfl)]
  · have s1 := ib_step (f i) c (by omega)
    have s2 := ib_step (f k) c (by omega)
    rw [h4, h3] at s1
    rw [h5] at s2
    have hlt : f k < f i := by
      by_cases hle : f i ≤ f k
      · have := Int.ediv_le_ediv (c := 2 ^ (10 - c)) (Int.pow_pos (by omega)) hle
        omega
      · omega
    refine ⟨by omega, by rintro ⟨h6, _⟩; omega, ?_⟩
    rw [h2, dfK_at _ _ 11 c (by omega) (fun d hd => ib_of_pre _ _ c (by omega) h3 d hd) (by omega)]
end Go.Proofs.Ytldagjgpapnfpaa
