/- Bits that are stuffed and taken out again; numbers read out of bits. -/
import Derived.Test.YtplpggcbpcebcaaDoorFbR
import Derived.Test.YtplpggcbpcebcaaDoorUsI
namespace Go.Proofs.YtplpggcbpcebcaaDoor
open Go.RowKit
theorem sfK_congr {f g : Nat → Int} : ∀ k, (∀ i, i < k → f i = g i) → sfK f k = sfK g k
  | 0, _ => rfl
  | k + 1, h => by
    have e := sfK_congr k (fun i hi => h i (by omega))
    have e2 := h k (by omega)
    rw [sfK, sfK, e, e2]
theorem usK_congr {f g : Nat → Int} : ∀ k, (∀ i, i < k → f i = g i) → usK f k = usK g k
  | 0, _ => rfl
  | k + 1, h => by
    have e := usK_congr k (fun i hi => h i (by omega))
    have e2 := h k (by omega)
    rw [usK, usK, e, e2]
/-- a list as its elements by their index -/
def gL (l : List Int) : Nat → Int := fun i => l.getD i 0
theorem gL_app_lt (l m : List Int) (i : Nat) (h : i < l.length) : gL (l ++ m) i = gL l i := by
  unfold gL; simp [List.getD, List.getElem?_append_left h]
theorem gL_app_at (l : List Int) (x : Int) (m : List Int) : gL (l ++ x :: m) l.length = x := by
  unfold gL; simp [List.getD]
/-- the first k as a list -/
def flK (f : Nat → Int) : Nat → List Int
  | 0 => []
  | k + 1 => flK f k ++ [f k]
theorem flK_len (f : Nat → Int) : ∀ k, (flK f k).length = k
  | 0 => rfl
  | k + 1 => by rw [flK, List.length_append, flK_len f k]; rfl
theorem us_step {o : List Int} {x : Int} {q : List Int} {l r : Int} (h : usK (gL o) o.length = some (q, l, r)) (h5 : r ≠ 5) : usK (gL (o ++ [x])) (o ++ [x]).length = some (q ++ [x], x, rnN l r x) := by
  rw [List.length_append]
  have e := usK_congr (f := gL (o ++ [x])) (g := gL o) o.length (fun i hi => gL_app_lt o [x] i hi)
  rw [h] at e
  have := usK_app e h5
  rw [gL_app_at] at this
  exact this
theorem us_skip {o : List Int} {x : Int} {q : List Int} {l r : Int} (h : usK (gL o) o.length = some (q, l, r)) (h5 : r = 5) (hx : x ≠ l) : usK (gL (o ++ [x])) (o ++ [x]).length = some (q, x, 1) := by
  rw [List.length_append]
  have e := usK_congr (f := gL (o ++ [x])) (g := gL o) o.length (fun i hi => gL_app_lt o [x] i hi)
  rw [h] at e
  have := usK_skip e h5 (by rw [gL_app_at]; exact hx)
  rw [gL_app_at] at this
  exact this
/-- what was stuffed is taken out again -/
theorem us_sf (f : Nat → Int) : ∀ k, (∀ i, i < k → f i = 48 ∨ f i = 49) → usK (gL (sfK f k).1) (sfK f k).1.length = some (flK f k, (sfK f k).2.1, (sfK f k).2.2)
  | 0, _ => rfl
  | k + 1, h => by
    have ih := us_sf f k (fun i hi => h i (by omega))
    have hb := sfK_bd f k
    have hx := h k (by omega)
    have s1 := us_step (x := f k) ih (by omega)
    rw [sfK]
    by_cases h5 : rnN (sfK f k).2.1 (sfK f k).2.2 (f k) = 5
    · rw [if_pos h5]
      exact us_skip s1 h5 (by omega)
    · rw [if_neg h5]
      exact s1
theorem sf_step (o : List Int) (x : Int) : sfK (gL (o ++ [x])) (o ++ [x]).length = if rnN (sfK (gL o) o.length).2.1 (sfK (gL o) o.length).2.2 x = 5 then ((sfK (gL o) o.length).1 ++ [x] ++ [97 - x], 97 - x, 1) else ((sfK (gL o) o.length).1 ++ [x], x, rnN (sfK (gL o) o.length).2.1 (sfK (gL o) o.length).2.2 x) := by
  rw [List.length_append]
  have e := sfK_congr (f := gL (o ++ [x])) (g := gL o) o.length (fun i hi => gL_app_lt o [x] i hi)
  show sfK (gL (o ++ [x])) (o.length + 1) = _
  rw [sfK, e, gL_app_at]
/-- what was taken out is stuffed again -/
theorem sf_us (f : Nat → Int) : ∀ k, (∀ i, i < k → f i = 48 ∨ f i = 49) → ∀ o l r, usK f k = some (o, l, r) →
    (r ≠ 5 → sfK (gL o) o.length = (flK f k, l, r)) ∧ (r = 5 → (l = 48 ∨ l = 49) ∧ sfK (gL o) o.length = (flK f k ++ [97 - l], 97 - l, 1))
  | 0, _, o, l, r, h => by
    unfold usK at h
    simp only [Option.some.injEq, Prod.mk.injEq] at h
    obtain ⟨rfl, rfl, rfl⟩ := h
    exact ⟨fun _ => rfl, fun h => by cases h⟩
  | k + 1, hb, o, l, r, h => by
    cases e : usK f k with
    | none => rw [usK, e] at h; cases h
    | some s =>
      obtain ⟨o', l', r'⟩ := s
      obtain ⟨i1, i2⟩ := sf_us f k (fun i hi => hb i (by omega)) o' l' r' e
      have hx := hb k (by omega)
      by_cases h5 : r' = 5
      · obtain ⟨hl, hs⟩ := i2 h5
        by_cases hxl : f k = l'
        · rw [usK_fail e h5 hxl] at h; cases h
        · rw [usK_skip e h5 hxl] at h
          simp only [Option.some.injEq, Prod.mk.injEq] at h
          obtain ⟨rfl, rfl, rfl⟩ := h
          have hxe : 97 - l' = f k := by omega
          rw [hxe] at hs
          exact ⟨fun _ => hs, fun h => by cases h⟩
      · rw [usK_app e h5] at h
        simp only [Option.some.injEq, Prod.mk.injEq] at h
        obtain ⟨rfl, rfl, rfl⟩ := h
        have hs := sf_step o' (f k)
        rw [i1 h5] at hs
        constructor
        · intro h6
          rw [if_neg h6] at hs
          exact hs
        · intro h6
          rw [if_pos h6] at hs
          exact ⟨hx, hs⟩
/-- a number out of n bits from at on -/
def nmK (f : Nat → Int) (at_ : Nat) : Nat → Nat
  | 0 => 0
  | n + 1 => 2 * nmK f at_ n + (f (at_ + n) - 48).toNat
theorem nmK_congr {f g : Nat → Int} {a b : Nat} : ∀ n, (∀ i, i < n → f (a + i) = g (b + i)) → nmK f a n = nmK g b n
  | 0, _ => rfl
  | n + 1, h => by rw [nmK, nmK, nmK_congr n (fun i hi => h i (by omega)), h n (by omega)]
theorem nmK_bd {f : Nat → Int} {a : Nat} : ∀ n, (∀ i, i < n → f (a + i) = 48 ∨ f (a + i) = 49) → nmK f a n < 2 ^ n
  | 0, _ => by show (0 : Nat) < 1; omega
  | n + 1, h => by
    have := nmK_bd n (fun i hi => h i (by omega))
    have hx := h n (by omega)
    rw [nmK, Nat.pow_succ]
    omega
end Go.Proofs.YtplpggcbpcebcaaDoor
