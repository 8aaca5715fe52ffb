/- Runes and names as bytes. f: the bytes, n: how many. -/
import Derived.Test.YtmlfijapndkfhaaDoorQInCore
namespace Go.Proofs.YtmlfijapndkfhaaDoor
/-- byte i of a text -/
def bt (s : ByteArray) (i : Nat) : Int := if h : i < s.size then ((s[i]).toNat : Int) else 0
theorem bt_bd (s : ByteArray) (i : Nat) : 0 ≤ bt s i ∧ bt s i ≤ 255 := by
  unfold bt
  split
  · rename_i h
    have := (s[i]).toNat_lt
    omega
  · omega
theorem ix_bt {P : Program} {t : TypeId} (h : P.underlying t = some .string) (s : ByteArray) (i : Nat) (hi : i < s.size) (w : World) : (Instr.index t (.string s) (.int .i64 (i : Int))).run P w = .ok (.int .u8 (bt s i)) w := by
  rw [run_index_string w t s .i64 (i : Int) h]
  have h1 : 0 ≤ (i : Int) ∧ (i : Int) < s.size := by omega
  rw [dif_pos h1]
  unfold bt
  rw [dif_pos hi]
  rfl
/-- the bytes behind the first one of a rune are such as may stand there -/
def contK (f : Nat → Int) (n i : Nat) (lo hi : Int) : Nat → Bool
  | 0 => true
  | k + 1 => contK f n i lo hi k && (decide (i + k + 1 < n) && (decide ((if k = 0 then lo else 128) ≤ f (i + k + 1)) && decide (f (i + k + 1) ≤ (if k = 0 then hi else 191))))
theorem contK_no {f : Nat → Int} {n i : Nat} {lo hi : Int} {k m : Nat} (hk : k ≤ m) (h : contK f n i lo hi k = false) : contK f n i lo hi m = false := by
  induction m with
  | zero =>
    have : k = 0 := by omega
    subst this; exact h
  | succ m ih =>
    by_cases e : k = m + 1
    · rw [← e]; exact h
    · unfold contK
      rw [ih (by omega)]; rfl
def rn (f : Nat → Int) (n i : Nat) (m : Nat) (lo hi : Int) : Nat := if contK f n i lo hi (m - 1) = true then m else 0
/-- how many bytes the rune at i has, 0 where there is none -/
def rnK (f : Nat → Int) (n i : Nat) : Nat :=
  if f i < 128 then 1
  else if 194 ≤ f i ∧ f i ≤ 223 then rn f n i 2 128 191
  else if 224 ≤ f i ∧ f i ≤ 239 then rn f n i 3 (if f i = 224 then 160 else 128) (if f i = 237 then 159 else 191)
  else if 240 ≤ f i ∧ f i ≤ 244 then rn f n i 4 (if f i = 240 then 144 else 128) (if f i = 244 then 143 else 191)
  else 0
theorem rn_le (f : Nat → Int) (n i m : Nat) (lo hi : Int) : rn f n i m lo hi ≤ m := by unfold rn; split <;> omega
theorem rnK_le (f : Nat → Int) (n i : Nat) : rnK f n i ≤ 4 := by
  unfold rnK
  split
  · omega
  split
  · have := rn_le f n i 2 128 191; omega
  split
  · exact Nat.le_trans (rn_le _ _ _ _ _ _) (by omega)
  split
  · exact rn_le _ _ _ _ _ _
  · omega
/-- a letter -/
def letB (b : Int) : Bool := (decide (97 ≤ b) && decide (b ≤ 122)) || (decide (65 ≤ b) && decide (b ≤ 90))
/-- what may not stand in a name begins at i -/
def odB (f : Nat → Int) (n i : Nat) : Bool := decide (rnK f n i = 0) || (decide (rnK f n i = 1) && !(letB (f i)))
def oddR (f : Nat → Int) (n : Nat) : Nat → Nat → Nat → Int × Int
  | 0, _, r => (-1, (r : Int))
  | q + 1, i, r => if i < n then (if odB f n i = true then ((i : Int), 0) else oddR f n q (i + rnK f n i) (r + 1)) else (-1, (r : Int))
theorem odB_pos {f : Nat → Int} {n i : Nat} (h : odB f n i = false) : 1 ≤ rnK f n i := by
  unfold odB at h
  simp only [Bool.or_eq_false_iff, decide_eq_false_iff_not] at h
  omega
theorem oddR_eq {f : Nat → Int} {n : Nat} : ∀ (q q' i r : Nat), n ≤ i + q → n ≤ i + q' → oddR f n q i r = oddR f n q' i r := by
  intro q
  induction q with
  | zero =>
    intro q' i r h1 h2
    cases q' with
    | zero => rfl
    | succ q' => unfold oddR; rw [if_neg (by omega)]
  | succ q ih =>
    intro q' i r h1 h2
    cases q' with
    | zero => unfold oddR; rw [if_neg (by omega)]
    | succ q' =>
      unfold oddR
      by_cases e : i < n
      · rw [if_pos e, if_pos e]
        cases ho : odB f n i with
        | true => rfl
        | false =>
          have := odB_pos ho
          simp only [Bool.false_eq_true, if_false]
          exact ih q' _ _ (by omega) (by omega)
      · rw [if_neg e, if_neg e]
/-- what is left to look at from i on -/
def oddU (f : Nat → Int) (n i r : Nat) : Int × Int := oddR f n (n - i) i r
theorem oddU_end {f : Nat → Int} {n i r : Nat} (h : ¬ i < n) : oddU f n i r = (-1, (r : Int)) := by
  unfold oddU
  rw [show n - i = 0 by omega]; rfl
theorem oddU_odd {f : Nat → Int} {n i r : Nat} (h : i < n) (ho : odB f n i = true) : oddU f n i r = ((i : Int), 0) := by
  unfold oddU
  obtain ⟨q, hq⟩ : ∃ q, n - i = q + 1 := ⟨n - i - 1, by omega⟩
  rw [hq]; unfold oddR
  rw [if_pos h, if_pos ho]
theorem oddU_go {f : Nat → Int} {n i r : Nat} (h : i < n) (ho : odB f n i = false) : oddU f n i r = oddU f n (i + rnK f n i) (r + 1) := by
  unfold oddU
  obtain ⟨q, hq⟩ : ∃ q, n - i = q + 1 := ⟨n - i - 1, by omega⟩
  have hp := odB_pos ho
  rw [hq]
  have e : oddR f n (q + 1) i r = oddR f n q (i + rnK f n i) (r + 1) := by
    rw [oddR, if_pos h, ho]; rfl
  rw [e]
  exact oddR_eq _ _ _ _ (by omega) (by omega)
/-- a name -/
def nameB (f : Nat → Int) (n : Nat) : Bool := decide ((oddU f n 0 0).1 < 0) && (decide (1 ≤ (oddU f n 0 0).2) && decide ((oddU f n 0 0).2 ≤ 12))
end Go.Proofs.YtmlfijapndkfhaaDoor
