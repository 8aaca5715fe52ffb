/- Bits as texts: which texts are bits, what is stuffed into them, and what is taken out again. f: the bytes, by their number. -/
import Derived.Test.YtplpggcbpcebcaaDoorWhM
import Derived.Laws.BytesArg
import Derived.Lib.SlTrimSet
namespace Go.Proofs.YtplpggcbpcebcaaDoor
/-- the first k bytes are bits -/
def btsB (f : Nat → Int) : Nat → Bool
  | 0 => true
  | k + 1 => btsB f k && (f k == 48 || f k == 49)
theorem btsB_iff (f : Nat → Int) (k : Nat) : btsB f k = true ↔ ∀ i, i < k → f i = 48 ∨ f i = 49 := by
  induction k with
  | zero => simp [btsB]
  | succ k ih =>
    unfold btsB
    rw [Bool.and_eq_true, ih, Bool.or_eq_true, beq_iff_eq, beq_iff_eq]
    constructor
    · rintro ⟨h1, h2⟩ i hi
      rcases Nat.lt_or_eq_of_le (Nat.le_of_lt_succ hi) with h | rfl
      · exact h1 i h
      · exact h2
    · exact fun h => ⟨fun i hi => h i (by omega), h k (by omega)⟩
theorem btsB_no {f : Nat → Int} {n k : Nat} (hk : k < n) (h0 : f k ≠ 48) (h1 : f k ≠ 49) : btsB f n = false := by
  cases e : btsB f n with
  | false => rfl
  | true => rcases (btsB_iff f n).1 e k hk with h | h <;> contradiction
/-- a text that is bits -/
def bitB (s : ByteArray) : Bool := decide (s.size ≤ 300) && btsB (bt s) s.size
theorem bitB_of {s : ByteArray} (h : bitB s = true) : s.size ≤ 300 ∧ ∀ i, i < s.size → bt s i = 48 ∨ bt s i = 49 := by
  unfold bitB at h
  rw [Bool.and_eq_true, decide_eq_true_eq, btsB_iff] at h
  exact h
theorem bt_list (s : ByteArray) (i : Nat) (hi : i < s.size) : s.data.toList[i]? = some (s[i]) := by
  have : i < s.data.toList.length := by simpa using hi
  rw [List.getElem?_eq_getElem this]
  rfl
theorem dropW_nil {α : Type} (p : α → Bool) : ∀ l : List α, l.dropWhile p = [] ↔ ∀ x ∈ l, p x = true
  | [] => by simp
  | a :: l => by
    rw [List.dropWhile_cons]
    by_cases h : p a = true
    · rw [if_pos h, dropW_nil p l]
      simp [h]
    · rw [if_neg h]
      simp [h]
theorem trim_nil (l cs : List UInt8) : Lib.trimS l cs = [] ↔ ∀ b ∈ l, cs.contains b = true := by
  unfold Lib.trimS Lib.trimLeftS Lib.trimRightS
  rw [dropW_nil]
  constructor
  · intro h
    suffices H : l.reverse.dropWhile (cs.contains ·) = [] by
      intro b hb
      exact (dropW_nil _ _).1 H b (by simpa using hb)
    cases e : l.reverse.dropWhile (cs.contains ·) with
    | nil => rfl
    | cons a t =>
      have h1 := h a (by rw [e]; simp)
      have h2 : (cs.contains ·) a = false := by
        have := List.head?_dropWhile_not (cs.contains ·) l.reverse
        rw [e] at this
        simpa using this
      simp at h1 h2
      exact absurd h1 h2
  · intro h b hb
    have h1 : b ∈ l.reverse.dropWhile (cs.contains ·) := by simpa using hb
    exact h b (by simpa using (List.dropWhile_suffix _).subset h1)
theorem trim_bits (s : ByteArray) : (Lib.trimS s.data.toList [48, 49]).isEmpty = btsB (bt s) s.size := by
  rw [Bool.eq_iff_iff, btsB_iff, List.isEmpty_iff, trim_nil]
  constructor
  · intro h i hi
    have := h (s[i]) (List.mem_of_getElem? (bt_list s i hi))
    unfold bt
    rw [dif_pos hi]
    simp at this
    rcases this with e | e <;> rw [e]
    · left; rfl
    · right; rfl
  · intro h b hb
    obtain ⟨i, hi⟩ := List.getElem?_of_mem hb
    have hl : i < s.size := by
      have := (List.getElem?_eq_some_iff.1 hi).1
      simpa using this
    rw [bt_list s i hl] at hi
    cases hi
    have := h i hl
    unfold bt at this
    rw [dif_pos hl] at this
    rcases this with e | e
    · have : s[i] = 48 := UInt8.toNat_inj.1 (by have : (s[i]).toNat = 48 := by omega
                                                exact this)
      simp [this]
    · have : s[i] = 49 := UInt8.toNat_inj.1 (by have : (s[i]).toNat = 49 := by omega
                                                exact this)
      simp [this]
/-- how many alike there are with one bit more -/
def rnN (l r x : Int) : Int := if x = l then r + 1 else 1
/-- what is stuffed so far, the last bit, and how many alike stand at the end -/
def sfK (f : Nat → Int) : Nat → List Int × Int × Int
  | 0 => ([], 0, 0)
  | k + 1 => if rnN (sfK f k).2.1 (sfK f k).2.2 (f k) = 5 then ((sfK f k).1 ++ [f k] ++ [97 - f k], 97 - f k, 1) else ((sfK f k).1 ++ [f k], f k, rnN (sfK f k).2.1 (sfK f k).2.2 (f k))
theorem sfK_bd (f : Nat → Int) (k : Nat) : 0 ≤ (sfK f k).2.2 ∧ (sfK f k).2.2 ≤ 4 := by
  induction k with
  | zero => exact ⟨Int.le_refl _, (by decide : (0 : Int) ≤ 4)⟩
  | succ k ih =>
    unfold sfK
    split
    · simp
    · rename_i h
      simp only
      unfold rnN at h ⊢
      split <;> rename_i h2 <;> (try rw [if_pos h2] at h) <;> omega
theorem sfK_len (f : Nat → Int) (k : Nat) : (sfK f k).1.length ≤ 2 * k := by
  induction k with
  | zero => exact Nat.le_refl _
  | succ k ih =>
    unfold sfK
    split <;> simp <;> omega
theorem sfK_last (f : Nat → Int) (k : Nat) (h : ∀ i, i < k → f i = 48 ∨ f i = 49) : (sfK f k).2.1 = 0 ∨ (sfK f k).2.1 = 48 ∨ (sfK f k).2.1 = 49 := by
  cases k with
  | zero => exact .inl rfl
  | succ k =>
    have := h k (by omega)
    unfold sfK
    split <;> simp only <;> omega
/-- what is taken out again so far (none: it is no stuffed text) -/
def usK (f : Nat → Int) : Nat → Option (List Int × Int × Int)
  | 0 => some ([], 0, 0)
  | k + 1 => (usK f k).bind fun s => if s.2.2 = 5 then (if f k = s.2.1 then none else some (s.1, f k, 1)) else some (s.1 ++ [f k], f k, rnN s.2.1 s.2.2 (f k))
theorem usK_none {f : Nat → Int} {k n : Nat} (hk : k ≤ n) (h : usK f k = none) : usK f n = none := by
  induction n with
  | zero => have : k = 0 := by omega
            subst this; exact h
  | succ n ih =>
    by_cases e : k = n + 1
    · rw [← e]; exact h
    · unfold usK
      rw [ih (by omega)]; rfl
theorem usK_bd {f : Nat → Int} {k : Nat} {o : List Int} {l r : Int} (h : usK f k = some (o, l, r)) : 0 ≤ r ∧ r ≤ 5 ∧ o.length ≤ k := by
  induction k generalizing o l r with
  | zero =>
    unfold usK at h
    simp only [Option.some.injEq, Prod.mk.injEq] at h
    obtain ⟨rfl, rfl, rfl⟩ := h
    simp
  | succ k ih =>
    unfold usK at h
    cases e : usK f k with
    | none => rw [e] at h; cases h
    | some s =>
      obtain ⟨o', l', r'⟩ := s
      have hb := ih e
      rw [e] at h
      simp only [Option.bind_some] at h
      by_cases h5 : r' = 5
      · rw [if_pos h5] at h
        split at h
        · cases h
        · simp only [Option.some.injEq, Prod.mk.injEq] at h
          obtain ⟨rfl, rfl, rfl⟩ := h
          omega
      · rw [if_neg h5] at h
        simp only [Option.some.injEq, Prod.mk.injEq] at h
        obtain ⟨rfl, rfl, rfl⟩ := h
        simp only [List.length_append, List.length_singleton]
        unfold rnN
        split <;> omega
/-- what UnstuffBits tells -/
def usV (s : ByteArray) : Option (List Int) := if bitB s = true then (match usK (bt s) s.size with | some (o, _, r) => if r = 5 then none else some o | none => none) else none
end Go.Proofs.YtplpggcbpcebcaaDoor
