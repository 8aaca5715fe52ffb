/- What sorting and dropping doubles comes to: the numbers that were marked, rising. -/
import Derived.Test.YtbndhhjgjalecabDoorQClFrB
import Derived.Lib.SlicesCompact
namespace Go.Proofs.YtbndhhjgjalecabDoor
open Go.RowKit

/-- the first k steps, in the order of the places -/
def sts (h : Int → Int) (g : Nat → Int) : Nat → List Int
  | 0 => []
  | k + 1 => sts h g k ++ [h (g k)]
theorem sts_len (h : Int → Int) (g : Nat → Int) (k : Nat) : (sts h g k).length = k := by
  induction k with
  | zero => rfl
  | succ k ih => simp [sts, ih]
theorem sts_mem (h : Int → Int) (g : Nat → Int) (k : Nat) (x : Int) : x ∈ sts h g k ↔ ∃ j, j < k ∧ h (g j) = x := by
  induction k with
  | zero => simp [sts]
  | succ k ih =>
    simp only [sts, List.mem_append, List.mem_singleton, ih]
    constructor
    · rintro (⟨j, hj, e⟩ | e)
      · exact ⟨j, by omega, e⟩
      · exact ⟨k, by omega, e.symm⟩
    · rintro ⟨j, hj, e⟩
      by_cases he : j = k
      · subst he; exact Or.inr e.symm
      · exact Or.inl ⟨j, by omega, e⟩
/-- which numbers the first k steps come to -/
def mkd (h : Int → Int) (g : Nat → Int) : Nat → Nat → Int
  | 0, _ => 0
  | k + 1, i => if (i : Int) = h (g k) then 1 else mkd h g k i
theorem mkd_iff (h : Int → Int) (g : Nat → Int) (k i : Nat) : mkd h g k i = 1 ↔ ∃ j, j < k ∧ h (g j) = (i : Int) := by
  induction k with
  | zero => simp [mkd]
  | succ k ih =>
    unfold mkd
    by_cases e : (i : Int) = h (g k)
    · rw [if_pos e]; exact ⟨fun _ => ⟨k, by omega, e.symm⟩, fun _ => rfl⟩
    · rw [if_neg e, ih]
      constructor
      · rintro ⟨j, hj, he⟩; exact ⟨j, by omega, he⟩
      · rintro ⟨j, hj, he⟩
        by_cases hk : j = k
        · subst hk; exact absurd he.symm e
        · exact ⟨j, by omega, he⟩
theorem mkd_two (h : Int → Int) (g : Nat → Int) (k i : Nat) : mkd h g k i = 0 ∨ mkd h g k i = 1 := by
  induction k with
  | zero => exact Or.inl rfl
  | succ k ih => unfold mkd; split; { exact Or.inr rfl }; { exact ih }
/-- the numbers below k that are marked -/
def ord (t : Nat → Int) : Nat → List Int
  | 0 => []
  | k + 1 => if t k = 1 then ord t k ++ [(k : Int)] else ord t k
theorem ord_len (t : Nat → Int) (k : Nat) : (ord t k).length ≤ k := by
  induction k with
  | zero => simp [ord]
  | succ k ih => unfold ord; split; { simp; omega }; { omega }
theorem ord_mem (t : Nat → Int) (k : Nat) (x : Int) : x ∈ ord t k ↔ ∃ i : Nat, i < k ∧ t i = 1 ∧ (i : Int) = x := by
  induction k with
  | zero => simp [ord]
  | succ k ih =>
    unfold ord
    by_cases e : t k = 1
    · rw [if_pos e, List.mem_append, List.mem_singleton, ih]
      constructor
      · rintro (⟨i, hi, h1, h2⟩ | e2)
        · exact ⟨i, by omega, h1, h2⟩
        · exact ⟨k, by omega, e, e2.symm⟩
      · rintro ⟨i, hi, h1, h2⟩
        by_cases hk : i = k
        · subst hk; exact Or.inr h2.symm
        · exact Or.inl ⟨i, by omega, h1, h2⟩
    · rw [if_neg e, ih]
      constructor
      · rintro ⟨i, hi, h1, h2⟩; exact ⟨i, by omega, h1, h2⟩
      · rintro ⟨i, hi, h1, h2⟩
        by_cases hk : i = k
        · subst hk; exact absurd h1 e
        · exact ⟨i, by omega, h1, h2⟩
theorem ord_up (t : Nat → Int) (k : Nat) : (ord t k).Pairwise (· < ·) := by
  induction k with
  | zero => simp [ord]
  | succ k ih =>
    unfold ord
    split
    · rw [List.pairwise_append]
      refine ⟨ih, by simp, fun x hx y hy => ?_⟩
      obtain ⟨i, hi, _, rfl⟩ := (ord_mem t k x).1 hx
      simp only [List.mem_singleton] at hy
      subst hy
      omega
    · exact ih
theorem up_ext : ∀ (l m : List Int), l.Pairwise (· < ·) → m.Pairwise (· < ·) → (∀ x, x ∈ l ↔ x ∈ m) → l = m := by
  intro l
  induction l with
  | nil =>
    intro m _ _ h
    cases m with
    | nil => rfl
    | cons y m => exact absurd ((h y).2 (by simp)) (by simp)
  | cons x l ih =>
    intro m hl hm h
    cases m with
    | nil => exact absurd ((h x).1 (by simp)) (by simp)
    | cons y m =>
      rw [List.pairwise_cons] at hl hm
      have exy : x = y := by
        have h1 := (h x).1 (by simp)
        have h2 := (h y).2 (by simp)
        rw [List.mem_cons] at h1 h2
        rcases h1 with e | h1
        · exact e
        · rcases h2 with e | h2
          · exact e.symm
          · have := hm.1 x h1
            have := hl.1 y h2
            omega
      subst exy
      rw [ih m hl.2 hm.2 ?_]
      intro z
      constructor
      · intro hz
        have := (h z).1 (List.mem_cons_of_mem _ hz)
        rw [List.mem_cons] at this
        rcases this with e | e
        · have := hl.1 z hz; omega
        · exact e
      · intro hz
        have := (h z).2 (List.mem_cons_of_mem _ hz)
        rw [List.mem_cons] at this
        rcases this with e | e
        · have := hm.1 z hz; omega
        · exact e
theorem cu_up (d : Array Int) (hs : ∀ i j, i ≤ j → j < d.size → d[i]! ≤ d[j]!) (m : Nat) (hm : m ≤ d.size) :
    (Lib.compactUpTo d m).Pairwise (· < ·) ∧ ∀ x, x ∈ Lib.compactUpTo d m ↔ ∃ j, j < m ∧ d[j]! = x := by
  induction m with
  | zero => exact ⟨by simp [Lib.compactUpTo], fun x => by simp [Lib.compactUpTo]⟩
  | succ m ih =>
    obtain ⟨i1, i2⟩ := ih (by omega)
    rw [Lib.compactUpTo_succ]
    cases hk : Lib.keeps d m with
    | true =>
      have hk2 : m = 0 ∨ d[m]! ≠ d[m - 1]! := by simpa [Lib.keeps] using hk
      rw [if_pos rfl]
      constructor
      · rw [List.pairwise_append]
        refine ⟨i1, by simp, fun x hx y hy => ?_⟩
        obtain ⟨j, hj, rfl⟩ := (i2 x).1 hx
        simp only [List.mem_singleton] at hy
        subst hy
        have h1 := hs j (m - 1) (by omega) (by omega)
        have h2 := hs (m - 1) m (by omega) (by omega)
        rcases hk2 with e | e
        · omega
        · omega
      · intro x
        rw [List.mem_append, List.mem_singleton, i2]
        constructor
        · rintro (⟨j, hj, e⟩ | e)
          · exact ⟨j, by omega, e⟩
          · exact ⟨m, by omega, e.symm⟩
        · rintro ⟨j, hj, e⟩
          by_cases he : j = m
          · subst he; exact Or.inr e.symm
          · exact Or.inl ⟨j, by omega, e⟩
    | false =>
      have hk2 : ¬ (m = 0 ∨ d[m]! ≠ d[m - 1]!) := by simpa [Lib.keeps] using hk
      have hk3 : m ≠ 0 ∧ d[m]! = d[m - 1]! := ⟨fun e => hk2 (Or.inl e), Classical.byContradiction fun e => hk2 (Or.inr e)⟩
      simp only [Bool.false_eq_true, if_false, List.append_nil]
      refine ⟨i1, fun x => ?_⟩
      rw [i2]
      constructor
      · rintro ⟨j, hj, e⟩; exact ⟨j, by omega, e⟩
      · rintro ⟨j, hj, e⟩
        by_cases he : j = m
        · subst he; exact ⟨j - 1, by omega, by rw [← hk3.2]; exact e⟩
        · exact ⟨j, by omega, e⟩
theorem compact_sorted (l : List Int) : (Lib.compact (l.mergeSort fun x y => decide (x ≤ y))).Pairwise (· < ·) ∧ ∀ x, x ∈ Lib.compact (l.mergeSort fun x y => decide (x ≤ y)) ↔ x ∈ l := by
  have hp : (l.mergeSort fun x y => decide (x ≤ y)).Pairwise (fun x y => decide (x ≤ y) = true) := List.pairwise_mergeSort (by intro a b c h1 h2; simp at *; omega) (by intro a b; simp; omega) l
  have hM : ∀ x, x ∈ (l.mergeSort fun x y => decide (x ≤ y)) ↔ x ∈ l := fun x => List.mem_mergeSort
  generalize (l.mergeSort fun x y => decide (x ≤ y)) = s at hp hM
  have hs : ∀ i j, i ≤ j → j < s.toArray.size → s.toArray[i]! ≤ s.toArray[j]! := by
    intro i j hij hj
    have hj' : j < s.length := by simpa using hj
    rw [getElem!_pos s.toArray i (by simp; omega), getElem!_pos s.toArray j hj]
    by_cases e : i = j
    · subst e; exact Int.le_refl _
    · have := (List.pairwise_iff_getElem.1 hp) i j (by omega) hj' (by omega)
      simpa using this
  have h := cu_up s.toArray hs s.length (by simp)
  refine ⟨h.1, fun x => ?_⟩
  rw [← hM]
  refine (h.2 x).trans ?_
  rw [List.mem_iff_getElem]
  constructor
  · rintro ⟨j, hj, e⟩; exact ⟨j, hj, by rw [getElem!_pos s.toArray j (by simpa using hj)] at e; simpa using e⟩
  · rintro ⟨j, hj, e⟩; exact ⟨j, hj, by rw [getElem!_pos s.toArray j (by simpa using hj)]; simpa using e⟩
/-- what is sorted and told once each is what is marked, rising -/
theorem step_eq (h : Int → Int) (g : Nat → Int) (n m : Nat) (hb : ∀ j, j < m → 0 ≤ h (g j) ∧ h (g j) < n) :
    Lib.compact ((sts h g m).mergeSort fun x y => decide (x ≤ y)) = ord (mkd h g m) n := by
  have hc := compact_sorted (sts h g m)
  refine up_ext _ _ hc.1 (ord_up _ _) fun x => ?_
  rw [hc.2, sts_mem, ord_mem]
  constructor
  · rintro ⟨j, hj, e⟩
    have := hb j hj
    refine ⟨x.toNat, by omega, (mkd_iff h g m _).2 ⟨j, hj, by omega⟩, by omega⟩
  · rintro ⟨i, hi, h1, e⟩
    obtain ⟨j, hj, h2⟩ := (mkd_iff h g m i).1 h1
    exact ⟨j, hj, h2.trans e⟩
end Go.Proofs.YtbndhhjgjalecabDoor
