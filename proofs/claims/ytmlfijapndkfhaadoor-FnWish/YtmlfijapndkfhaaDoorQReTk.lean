/- The tokens of a text, as the program finds them. -/
import Derived.Test.YtmlfijapndkfhaaDoorQReM
import Derived.Test.YtmlfijapndkfhaaDoorQWhStr
import Derived.OwnWalk
import Derived.Laws.Concat
namespace Go.Proofs.YtmlfijapndkfhaaDoor
open Go.RowKit
theorem contK_at {f : Nat → Int} {n i : Nat} {lo hi : Int} (hlo : 128 ≤ lo) : ∀ {m : Nat}, contK f n i lo hi m = true → ∀ j, j < m → 128 ≤ f (i + j + 1)
  | 0, _, j, hj => absurd hj (Nat.not_lt_zero _)
  | m + 1, h, j, hj => by
    unfold contK at h
    simp only [Bool.and_eq_true, decide_eq_true_eq] at h
    by_cases e : j = m
    · subst e
      have := h.2.2.1
      split at this <;> omega
    · exact contK_at hlo h.1 j (by omega)
theorem rn_at {f : Nat → Int} {n i m k : Nat} {lo hi : Int} (hlo : 128 ≤ lo) (hk : 2 ≤ k) (h : rn f n i m lo hi = k) : ∀ j, i < j → j < i + k → 128 ≤ f j := by
  unfold rn at h
  split at h
  · rename_i hc
    subst h
    intro j h1 h2
    have := contK_at hlo hc (j - i - 1) (by omega)
    rw [show i + (j - i - 1) + 1 = j by omega] at this
    exact this
  · omega
theorem rnK_at {f : Nat → Int} {n i k : Nat} (hk : 2 ≤ k) (h : rnK f n i = k) : ∀ j, i ≤ j → j < i + k → 128 ≤ f j := by
  unfold rnK at h
  split at h
  · omega
  · rename_i h0
    have h0' : 128 ≤ f i := by omega
    have rest : (∀ j, i < j → j < i + k → 128 ≤ f j) → ∀ j, i ≤ j → j < i + k → 128 ≤ f j := fun hr j h1 h2 => by
      by_cases e : j = i
      · rw [e]; exact h0'
      · exact hr j (by omega) h2
    split at h
    · exact rest (rn_at (by omega) hk h)
    · split at h
      · exact rest (rn_at (by split <;> omega) hk h)
      · split at h
        · exact rest (rn_at (by split <;> omega) hk h)
        · omega
/-- a rune and the blanks: it is one where its byte is one, and none lies inside it -/
theorem sp_step (s : ByteArray) (i : Nat) (hi : i < s.size) : (((Utf8.decode s i).1 : Int) = 32 ↔ bt s i = 32) ∧ ∀ j, i < j → j < i + (Utf8.decode s i).2 → bt s j ≠ 32 := by
  have h := step_at s i hi
  have hb := gb_bt s i
  rcases h with ⟨h0, e⟩ | ⟨h1, hlt, e⟩ | ⟨h2, h3, h4⟩
  · rw [e]
    refine ⟨?_, fun j h1 h2 => by simp only at h2; omega⟩
    constructor
    · intro h; simp at h
    · intro h
      exfalso
      unfold rnK at h0
      rw [if_pos (by omega)] at h0
      omega
  · rw [e]
    refine ⟨by rw [hb], fun j h1 h2 => by simp only at h2; omega⟩
  · have hr := rnK_at h2 rfl
    refine ⟨⟨fun h => by omega, fun h => by have := hr i (Nat.le_refl _) (by omega); omega⟩, fun j h5 h6 => by have := hr j (by omega) (by omega); omega⟩
theorem bt_app (s : ByteArray) {j : Nat} (hj : j < s.size) : bt (s ++ wsp) j = bt s j := by
  have hs : (s ++ wsp).size = s.size + 1 := by rw [ByteArray.size_append]; rfl
  unfold bt
  rw [dif_pos (by omega), dif_pos hj]
  have : (s ++ wsp)[j]'(by omega) = s[j] := by
    rw [ByteArray.getElem_append_left hj]
  exact congrArg _ (congrArg _ this)
theorem bt_last (s : ByteArray) : bt (s ++ wsp) s.size = 32 := by
  have hs : (s ++ wsp).size = s.size + 1 := by rw [ByteArray.size_append]; rfl
  unfold bt
  rw [dif_pos (by omega)]
  have : (s ++ wsp)[s.size]'(by omega) = 32 := by
    rw [ByteArray.getElem_append_right (Nat.le_refl _)]
    simp [wsp]
    rfl
  exact congrArg (fun x : UInt8 => ((x.toNat : Nat) : Int)) this
/-- tokens as cells -/
def tqC : List (Nat × ByteArray) → List Value
  | [] => []
  | q :: l => .int .i64 (q.1 : Int) :: .string q.2 :: tqC l
theorem tqC_app : ∀ (l m : List (Nat × ByteArray)), tqC (l ++ m) = tqC l ++ tqC m
  | [], _ => rfl
  | q :: l, m => by simp [tqC, tqC_app l m]
theorem tqC_len : ∀ l : List (Nat × ByteArray), (tqC l).length = l.length * 2
  | [] => rfl
  | q :: l => by simp [tqC, tqC_len l]; omega
theorem tqC_get : ∀ (l : List (Nat × ByteArray)) (j : Nat) (q : Nat × ByteArray), l[j]? = some q → (tqC l)[j * 2]? = some (.int .i64 (q.1 : Int)) ∧ (tqC l)[j * 2 + 1]? = some (.string q.2)
  | [], j, q, h => by simp at h
  | x :: l, 0, q, h => by
    simp at h
    subst h
    exact ⟨rfl, rfl⟩
  | x :: l, j + 1, q, h => by
    have := tqC_get l j q (by simpa using h)
    rw [show (j + 1) * 2 = j * 2 + 1 + 1 by omega, show j * 2 + 1 + 1 + 1 = (j * 2 + 1) + 1 + 1 by omega]
    exact this
end Go.Proofs.YtmlfijapndkfhaaDoor
