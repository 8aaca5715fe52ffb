/- Numbers alone: prices, and who has which task. -/
import Derived.Test.YtjmdghkhapajiaaCwRM
namespace Go.Proofs.Ytjmdghkhapajiaa
open Go.RowKit
/-- is a number no price -/
def noP (x : Int) : Bool := decide (x < 0 ∨ 100000 < x)
theorem noP_f {x : Int} (h : noP x = false) : 0 ≤ x ∧ x ≤ 100000 := by have := of_decide_eq_false h; omega
/-- is one of the first k no price -/
def hasN (f : Nat → Int) : Nat → Bool
  | 0 => false
  | k + 1 => hasN f k || noP (f k)
theorem hasN_f {f : Nat → Int} : ∀ {n : Nat}, hasN f n = false → ∀ j, j < n → 0 ≤ f j ∧ f j ≤ 100000
  | 0, _, j, hj => by omega
  | n + 1, h, j, hj => by
    unfold hasN at h
    simp only [Bool.or_eq_false_iff] at h
    by_cases e : j = n
    · subst e; exact noP_f h.2
    · exact hasN_f h.1 j (by omega)
theorem hasN_t {f : Nat → Int} {n k : Nat} (hk : k < n) (h : noP (f k) = true) : hasN f n = true := by
  induction n with
  | zero => omega
  | succ n ih =>
    unfold hasN
    by_cases e : k = n
    · subst e; rw [h]; simp
    · rw [ih (by omega)]; rfl
def rowP (n : Nat) (K : Nat → Nat) (F : Nat → Nat → Int) (k : Nat) : Bool := decide (K k = n) && !hasN (F k) n
def gpK (n : Nat) (K : Nat → Nat) (F : Nat → Nat → Int) : Nat → Bool
  | 0 => true
  | k + 1 => gpK n K F k && rowP n K F k
def gpB (n : Nat) (K : Nat → Nat) (F : Nat → Nat → Int) : Bool := decide (1 ≤ n ∧ n ≤ 6) && gpK n K F n
theorem gpK_no {n : Nat} {K : Nat → Nat} {F : Nat → Nat → Int} {m k : Nat} (h : k < m) (e : rowP n K F k = false) : gpK n K F m = false := by
  induction m with
  | zero => omega
  | succ m ih =>
    unfold gpK
    by_cases c : k = m
    · subst c; rw [e]; simp
    · rw [ih (by omega)]; rfl
/-- good prices -/
structure GP (n : Nat) (K : Nat → Nat) (F : Nat → Nat → Int) : Prop where
  lo : 1 ≤ n
  hi : n ≤ 6
  len : ∀ i, i < n → K i = n
  bd : ∀ i j, i < n → j < n → 0 ≤ F i j ∧ F i j ≤ 100000
theorem gpB_t {n : Nat} {K : Nat → Nat} {F : Nat → Nat → Int} (h : gpB n K F = true) : GP n K F := by
  unfold gpB at h
  simp only [Bool.and_eq_true, decide_eq_true_eq] at h
  obtain ⟨⟨h0, h1⟩, h2⟩ := h
  have k : ∀ i, i < n → rowP n K F i = true := fun i hi => by
    cases e : rowP n K F i with
    | true => rfl
    | false => rw [gpK_no hi e] at h2; cases h2
  refine ⟨h0, h1, fun i hi => ?_, fun i j hi hj => ?_⟩
  · have := k i hi
    unfold rowP at this
    simp only [Bool.and_eq_true, decide_eq_true_eq] at this
    exact this.1
  · have := k i hi
    unfold rowP at this
    simp only [Bool.and_eq_true, Bool.not_eq_true'] at this
    exact hasN_f this.2 j hj
/-- does one of the first k have task x -/
def hadB (g : Nat → Int) : Nat → Int → Bool
  | 0, _ => false
  | k + 1, x => hadB g k x || (g k == x)
theorem hadB_t {g : Nat → Int} : ∀ {k : Nat} {x : Int}, hadB g k x = true ↔ ∃ j, j < k ∧ g j = x
  | 0, x => by simp [hadB]
  | k + 1, x => by
    unfold hadB
    rw [Bool.or_eq_true, hadB_t, beq_iff_eq]
    constructor
    · rintro (⟨j, hj, e⟩ | e)
      · exact ⟨j, by omega, e⟩
      · exact ⟨k, by omega, e⟩
    · rintro ⟨j, hj, e⟩
      by_cases c : j = k
      · subst c; exact .inr e
      · exact .inl ⟨j, by omega, e⟩
def whS (n : Nat) (g : Nat → Int) (k : Nat) : Bool := decide (0 ≤ g k ∧ g k < (n : Int)) && !hadB g k (g k)
def whK (n : Nat) (g : Nat → Int) : Nat → Bool
  | 0 => true
  | k + 1 => whK n g k && whS n g k
def whB (n m : Nat) (g : Nat → Int) : Bool := decide (m = n) && whK n g n
theorem whK_no {n : Nat} {g : Nat → Int} {m k : Nat} (h : k < m) (e : whS n g k = false) : whK n g m = false := by
  induction m with
  | zero => omega
  | succ m ih =>
    unfold whK
    by_cases c : k = m
    · subst c; rw [e]; simp
    · rw [ih (by omega)]; rfl
theorem whK_t {n : Nat} {g : Nat → Int} {m : Nat} (h : whK n g m = true) : ∀ k, k < m → (0 ≤ g k ∧ g k < (n : Int)) ∧ ∀ j, j < k → g j ≠ g k := by
  intro k hk
  cases e : whS n g k with
  | false => rw [whK_no hk e] at h; cases h
  | true =>
    unfold whS at e
    simp only [Bool.and_eq_true, decide_eq_true_eq, Bool.not_eq_true'] at e
    refine ⟨e.1, fun j hj c => ?_⟩
    have : hadB g k (g k) = true := hadB_t.2 ⟨j, hj, c⟩
    rw [e.2] at this; cases this
/-- the tasks of the first k, as bits -/
def tkM (g : Nat → Int) : Nat → Nat
  | 0 => 0
  | k + 1 => tkM g k ||| 2 ^ (g k).toNat
theorem tkM_had {g : Nat → Int} : ∀ {k : Nat}, (∀ j, j < k → 0 ≤ g j) → ∀ t : Nat, (tkM g k).testBit t = hadB g k (t : Int)
  | 0, _, t => by simp [tkM, hadB]
  | k + 1, h, t => by
    unfold tkM hadB
    rw [Nat.testBit_or, tkM_had (fun j hj => h j (by omega)) t, Nat.testBit_two_pow]
    congr 1
    have h0 := h k (by omega)
    by_cases e : g k = (t : Int)
    · have e2 : (g k).toNat = t := by omega
      simp [e]
    · have e2 : ¬ (g k).toNat = t := by omega
      rw [decide_eq_false e2]; symm; simpa using e
theorem tkM_lt {g : Nat → Int} : ∀ {k : Nat}, (∀ j, j < k → 0 ≤ g j ∧ g j < 6) → tkM g k < 64
  | 0, _ => by simp [tkM]
  | k + 1, h => by
    unfold tkM
    have h0 := h k (by omega)
    refine Nat.or_lt_two_pow (n := 6) (tkM_lt fun j hj => h j (by omega)) ?_
    exact Nat.pow_lt_pow_right (by omega) (by omega)
/-- what the first k ask -/
def csK (F : Nat → Nat → Int) (g : Nat → Int) : Nat → Int
  | 0 => 0
  | k + 1 => csK F g k + F k (g k).toNat
theorem csK_in {n : Nat} {K : Nat → Nat} {F : Nat → Nat → Int} {g : Nat → Int} (h : GP n K F) (hg : ∀ j, j < n → 0 ≤ g j ∧ g j < (n : Int)) : ∀ k, k ≤ n → 0 ≤ csK F g k ∧ csK F g k ≤ 100000 * (k : Int)
  | 0, _ => by simp [csK]
  | k + 1, hk => by
    have h1 := csK_in h hg k (by omega)
    have h2 := hg k (by omega)
    have h3 := h.bd k (g k).toNat (by omega) (by omega)
    unfold csK
    omega
def gaB (n m : Nat) (K : Nat → Nat) (F : Nat → Nat → Int) (g : Nat → Int) : Bool := gpB n K F && whB n m g
/-- good prices, and each has one task, each task once -/
structure GA (n m : Nat) (K : Nat → Nat) (F : Nat → Nat → Int) (g : Nat → Int) : Prop where
  gp : GP n K F
  len : m = n
  bd : ∀ k, k < n → 0 ≤ g k ∧ g k < (n : Int)
  one : ∀ i j, i < n → j < n → g i = g j → i = j
theorem gaB_t {n m : Nat} {K : Nat → Nat} {F : Nat → Nat → Int} {g : Nat → Int} (h : gaB n m K F g = true) : GA n m K F g := by
  unfold gaB whB at h
  simp only [Bool.and_eq_true, decide_eq_true_eq] at h
  have k := whK_t h.2.2
  refine ⟨gpB_t h.1, h.2.1, fun i hi => (k i hi).1, fun i j hi hj e => ?_⟩
  rcases Nat.lt_trichotomy i j with c | c | c
  · exact absurd e ((k j hj).2 i c)
  · exact c
  · exact absurd e.symm ((k i hi).2 j c)
theorem ll_at1 {w : World} {a : Option Addr} {n : Nat} {A : Nat → Option Addr} {K C : Nat → Nat} {F : Nat → Nat → Int} (h : LL w a n A K C F) {i : Nat} (hi : i < n) : ∃ b off, a = some ⟨b, off, none⟩ ∧ b < w.heap.size ∧ w.cell? ⟨b, off + i, none⟩ = some (.slice (A i) (K i) (C i)) := by
  obtain ⟨b, off, e, hb, hc⟩ := h.out (by omega)
  exact ⟨b, off, e, hb, hc i hi⟩
theorem il_at1 {w : World} {a : Option Addr} {n : Nat} {f : Nat → Int} (h : IL w a n f) {i : Nat} (hi : i < n) : ∃ b off, a = some ⟨b, off, none⟩ ∧ b < w.heap.size ∧ w.cell? ⟨b, off + i, none⟩ = some (.int .i64 (f i)) := by
  obtain ⟨b, off, e, hb, hc⟩ := h (by omega)
  exact ⟨b, off, e, hb, hc i hi⟩
end Go.Proofs.Ytjmdghkhapajiaa
