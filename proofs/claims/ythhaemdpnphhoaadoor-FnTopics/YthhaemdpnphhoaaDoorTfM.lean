/- Which names fit which patterns; texts alone. -/
import Derived.Test.YthhaemdpnphhoaaDoorTpQ
namespace Go.Proofs.YthhaemdpnphhoaaDoor
def st1 (x : ByteArray) : Bool := x.toList == [42]
def st2 (x : ByteArray) : Bool := x.toList == [42, 42]
def eqT (x y : ByteArray) : Bool := x.toList == y.toList
/-- one part of a pattern stands for the parts j to k of a name -/
def Stp (s : List ByteArray) (x : ByteArray) (j k : Nat) : Prop :=
  (st2 x = true ∧ j ≤ k ∧ k ≤ s.length) ∨ (st2 x = false ∧ k = j + 1 ∧ ∃ y, s[j]? = some y ∧ (st1 x || eqT x y) = true)
/-- a pattern stands for the parts j to i -/
def Ft (s : List ByteArray) : List ByteArray → Nat → Nat → Prop
  | [], j, i => j = i
  | x :: p, j, i => ∃ k, Stp s x j k ∧ Ft s p k i
theorem stp_le {s : List ByteArray} {x : ByteArray} {j k : Nat} (h : Stp s x j k) : j ≤ k ∧ k ≤ s.length := by
  rcases h with ⟨_, h1, h2⟩ | ⟨_, rfl, y, hy, _⟩
  · exact ⟨h1, h2⟩
  · have := (List.getElem?_eq_some_iff.1 hy).1
    omega
theorem ft_le {s : List ByteArray} : ∀ {p : List ByteArray} {j i : Nat}, Ft s p j i → j ≤ s.length → j ≤ i ∧ i ≤ s.length
  | [], _, _, h, hj => by cases h; omega
  | x :: p, _, _, h, hj => by
    obtain ⟨k, h1, h2⟩ := h
    have := stp_le h1
    have := ft_le h2 this.2
    omega
theorem ft_snoc {s : List ByteArray} {x : ByteArray} : ∀ {p : List ByteArray} {j i : Nat}, Ft s (p ++ [x]) j i ↔ ∃ k, Ft s p j k ∧ Stp s x k i
  | [], j, i => by
    constructor
    · rintro ⟨k, h1, rfl⟩; exact ⟨j, rfl, h1⟩
    · rintro ⟨k, rfl, h1⟩; exact ⟨i, h1, rfl⟩
  | y :: p, j, i => by
    constructor
    · rintro ⟨k, h1, h2⟩
      obtain ⟨m, h3, h4⟩ := ft_snoc.1 h2
      exact ⟨m, ⟨k, h1, h3⟩, h4⟩
    · rintro ⟨m, ⟨k, h1, h3⟩, h4⟩
      exact ⟨k, h1, ft_snoc.2 ⟨m, h3, h4⟩⟩
/-- many stars are as one -/
theorem ft_stars {s : List ByteArray} {x y : ByteArray} {p : List ByteArray} {j i : Nat} (hx : st2 x = true) (hy : st2 y = true) : Ft s (p ++ [y] ++ [x]) j i ↔ Ft s (p ++ [y]) j i := by
  rw [ft_snoc, ft_snoc]
  constructor
  · rintro ⟨k, h1, h2⟩
    obtain ⟨m, h3, h4⟩ := ft_snoc.1 h1
    rcases h4 with ⟨_, a, b⟩ | ⟨e, _⟩
    · rcases h2 with ⟨_, c, d⟩ | ⟨e, _⟩
      · exact ⟨m, h3, .inl ⟨hy, by omega, d⟩⟩
      · rw [hx] at e; cases e
    · rw [hy] at e; cases e
  · rintro ⟨m, h3, h4⟩
    have := stp_le h4
    exact ⟨i, ft_snoc.2 ⟨m, h3, h4⟩, .inl ⟨hx, Nat.le_refl _, this.2⟩⟩
def hd1 (x : ByteArray) (f : List ByteArray → Bool) : List ByteArray → Bool
  | [] => false
  | y :: t => (st1 x || eqT x y) && f t
/-- as the model goes: from the left -/
def fB : List ByteArray → List ByteArray → Bool
  | [], s => s.isEmpty
  | x :: p, s => if st2 x then (List.range (s.length + 1)).any (fun k => fB p (s.drop k)) else hd1 x (fun t => fB p t) s
theorem fB_cons (x : ByteArray) (p s : List ByteArray) : fB (x :: p) s = if st2 x then (List.range (s.length + 1)).any (fun k => fB p (s.drop k)) else hd1 x (fun t => fB p t) s := rfl
theorem fB_ft (s : List ByteArray) : ∀ (p : List ByteArray) (j : Nat), j ≤ s.length → (fB p (s.drop j) = true ↔ Ft s p j s.length)
  | [], j, hj => by
    rw [fB, List.isEmpty_iff, List.drop_eq_nil_iff]
    show _ ↔ j = s.length
    omega
  | x :: p, j, hj => by
    rw [fB_cons]
    cases e : st2 x with
    | true =>
      rw [if_pos rfl, List.any_eq_true]
      constructor
      · rintro ⟨k, hk, h⟩
        rw [List.mem_range, List.length_drop] at hk
        rw [List.drop_drop] at h
        exact ⟨j + k, .inl ⟨e, by omega, by omega⟩, (fB_ft s p (j + k) (by omega)).1 h⟩
      · rintro ⟨k, h1, h2⟩
        rcases h1 with ⟨_, a, b⟩ | ⟨e', _⟩
        · refine ⟨k - j, by rw [List.mem_range, List.length_drop]; omega, ?_⟩
          rw [List.drop_drop, show j + (k - j) = k by omega]
          exact (fB_ft s p k b).2 h2
        · rw [e] at e'; cases e'
    | false =>
      rw [if_neg (by simp)]
      by_cases hl : j < s.length
      · rw [List.drop_eq_getElem_cons hl]
        simp only [hd1, Bool.and_eq_true]
        constructor
        · rintro ⟨h1, h2⟩
          exact ⟨j + 1, .inr ⟨e, rfl, s[j], List.getElem?_eq_getElem hl, h1⟩, (fB_ft s p (j + 1) (by omega)).1 h2⟩
        · rintro ⟨k, h1, h2⟩
          rcases h1 with ⟨e', _⟩ | ⟨_, rfl, y, hy, h3⟩
          · rw [e] at e'; cases e'
          · rw [List.getElem?_eq_getElem hl] at hy
            cases hy
            exact ⟨h3, (fB_ft s p (j + 1) (by omega)).2 h2⟩
      · have : s.drop j = [] := List.drop_eq_nil_iff.2 (by omega)
        rw [this]
        constructor
        · intro h; cases h
        · rintro ⟨k, h1, h2⟩
          rcases h1 with ⟨e', _⟩ | ⟨_, rfl, y, hy, h3⟩
          · rw [e] at e'; cases e'
          · have := (List.getElem?_eq_some_iff.1 hy).1
            omega
/-- the table: which first parts of the name a pattern can stand for -/
def FtT (s p : List ByteArray) (F : Nat → Bool) : Prop := ∀ i, i ≤ s.length → (F i = true ↔ Ft s p 0 i)
theorem ftt_nil (s : List ByteArray) : FtT s [] (fun i => decide (i = 0)) := fun i _ => by
  rw [decide_eq_true_eq]
  show _ ↔ 0 = i
  omega
/-- what comes next: with a part that is any parts -/
theorem ftt_star {s p : List ByteArray} {x : ByteArray} {F G : Nat → Bool} (h : FtT s p F) (hx : st2 x = true) (h0 : G 0 = F 0) (hs : ∀ i, i < s.length → G (i + 1) = (F (i + 1) || G i)) : FtT s (p ++ [x]) G := by
  intro i
  induction i with
  | zero =>
    intro hi
    rw [h0, h 0 hi, ft_snoc]
    constructor
    · intro q; exact ⟨0, q, .inl ⟨hx, Nat.le_refl _, hi⟩⟩
    · rintro ⟨k, q, r⟩
      have := stp_le r
      have : k = 0 := by omega
      subst this; exact q
  | succ i ih =>
    intro hi
    rw [hs i (by omega), Bool.or_eq_true, ih (by omega), h (i + 1) hi, ft_snoc, ft_snoc]
    constructor
    · rintro (q | ⟨k, q, r⟩)
      · exact ⟨i + 1, q, .inl ⟨hx, Nat.le_refl _, hi⟩⟩
      · rcases r with ⟨_, a, b⟩ | ⟨e, _⟩
        · exact ⟨k, q, .inl ⟨hx, by omega, hi⟩⟩
        · rw [hx] at e; cases e
    · rintro ⟨k, q, r⟩
      rcases r with ⟨_, a, b⟩ | ⟨e, _⟩
      · by_cases hk : k = i + 1
        · subst hk; exact .inl q
        · exact .inr ⟨k, q, .inl ⟨hx, by omega, by omega⟩⟩
      · rw [hx] at e; cases e
/-- .. with another one -/
theorem ftt_one {s p : List ByteArray} {x : ByteArray} {F G : Nat → Bool} (h : FtT s p F) (hx : st2 x = false) (h0 : G 0 = false) (hs : ∀ i, (hi : i < s.length) → G (i + 1) = (F i && (st1 x || eqT x s[i]))) : FtT s (p ++ [x]) G := by
  intro i hi
  rw [ft_snoc]
  cases i with
  | zero =>
    rw [h0]
    constructor
    · intro q; cases q
    · rintro ⟨k, _, r⟩
      rcases r with ⟨e, _⟩ | ⟨_, e, _⟩
      · rw [hx] at e; cases e
      · omega
  | succ i =>
    rw [hs i (by omega), Bool.and_eq_true, h i (by omega)]
    constructor
    · rintro ⟨q, r⟩
      exact ⟨i, q, .inr ⟨hx, rfl, s[i], List.getElem?_eq_getElem (by omega), r⟩⟩
    · rintro ⟨k, q, r⟩
      rcases r with ⟨e, _⟩ | ⟨_, e, y, hy, r⟩
      · rw [hx] at e; cases e
      · have : k = i := by omega
        subst this
        rw [List.getElem?_eq_getElem (by omega)] at hy
        cases hy
        exact ⟨q, r⟩
/-- does a pattern of parts stand for a name's -/
noncomputable def ftB (p s : List ByteArray) : Bool := fB p s
theorem ftt_end {s p : List ByteArray} {F : Nat → Bool} (h : FtT s p F) : F s.length = fB p s := by
  have h1 := h s.length (Nat.le_refl _)
  have h2 := fB_ft s p 0 (Nat.zero_le _)
  rw [List.drop_zero] at h2
  rw [Bool.eq_iff_iff, h1, h2]
/-- does a list end with any parts -/
def lst2 (q : List ByteArray) : Bool := match q.getLast? with | some y => st2 y | none => false
theorem lst2_of {q : List ByteArray} (h : lst2 q = true) : ∃ q' y, q = q' ++ [y] ∧ st2 y = true := by
  rcases List.eq_nil_or_concat q with rfl | ⟨q', y, rfl⟩
  · simp [lst2] at h
  · exact ⟨q', y, by simp, by simpa [lst2] using h⟩
/-- stars side by side as one -/
def colK : List ByteArray → List ByteArray → List ByteArray
  | q, [] => q
  | q, x :: p => colK (if st2 x && lst2 q then q else q ++ [x]) p
theorem col_ft (s : List ByteArray) : ∀ (p q r : List ByteArray), (∀ j i, Ft s q j i ↔ Ft s r j i) → ∀ j i, Ft s (colK q p) j i ↔ Ft s (r ++ p) j i
  | [], q, r, h, j, i => by rw [colK, List.append_nil]; exact h j i
  | x :: p, q, r, h, j, i => by
    rw [colK, show r ++ x :: p = (r ++ [x]) ++ p by simp]
    refine col_ft s p _ _ (fun j i => ?_) j i
    split
    · next e =>
      rw [Bool.and_eq_true] at e
      rw [ft_snoc]
      obtain ⟨q', y, rfl, hy⟩ := lst2_of e.2
      rw [← ft_stars e.1 hy, ft_snoc]
      constructor
      · rintro ⟨k, a, b⟩; exact ⟨k, (h _ _).1 a, b⟩
      · rintro ⟨k, a, b⟩; exact ⟨k, (h _ _).2 a, b⟩
    · rw [ft_snoc, ft_snoc]
      constructor
      · rintro ⟨k, a, b⟩; exact ⟨k, (h _ _).1 a, b⟩
      · rintro ⟨k, a, b⟩; exact ⟨k, (h _ _).2 a, b⟩
theorem col_fB (s p : List ByteArray) : fB (colK [] p) s = fB p s := by
  have h1 := fB_ft s (colK [] p) 0 (Nat.zero_le _)
  have h2 := fB_ft s p 0 (Nat.zero_le _)
  rw [List.drop_zero] at h1 h2
  rw [Bool.eq_iff_iff, h1, h2, col_ft s p [] [] (fun _ _ => Iff.rfl)]
  rfl
end Go.Proofs.YthhaemdpnphhoaaDoor
