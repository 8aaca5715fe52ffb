/- A wish, read: tokens, states, what is told; as lists and numbers. -/
import Derived.Test.YtmlfijapndkfhaaDoorQWhDec
import Derived.Test.YtmlfijapndkfhaaDoorQWhWtM
namespace Go.Proofs.YtmlfijapndkfhaaDoor
open Go.RowKit
/-- where the token that begins at i ends -/
def enF (s : ByteArray) : Nat → Nat → Nat
  | 0, i => i
  | q + 1, i => if i < s.size ∧ bt s i ≠ 32 then enF s q (i + 1) else i
def enK (s : ByteArray) (i : Nat) : Nat := enF s (s.size - i) i
theorem enF_is (s : ByteArray) (e : Nat) (he : e ≤ s.size) (h2 : e = s.size ∨ bt s e = 32) : ∀ q i, i ≤ e → s.size - i ≤ q → (∀ j, i ≤ j → j < e → bt s j ≠ 32) → enF s q i = e
  | 0, i, h0, hq, _ => by
    unfold enF
    omega
  | q + 1, i, h0, hq, h1 => by
    unfold enF
    by_cases c : i = e
    · subst c
      rw [if_neg (by
        rintro ⟨h3, h4⟩
        rcases h2 with h2 | h2
        · omega
        · exact h4 h2)]
    · rw [if_pos ⟨by omega, h1 i (Nat.le_refl _) (by omega)⟩]
      exact enF_is s e he h2 q (i + 1) (by omega) (by omega) (fun j hj hj2 => h1 j (by omega) hj2)
theorem enK_is {s : ByteArray} {i e : Nat} (h0 : i ≤ e) (he : e ≤ s.size) (h1 : ∀ j, i ≤ j → j < e → bt s j ≠ 32) (h2 : e = s.size ∨ bt s e = 32) : enK s i = e := enF_is s e he h2 _ i h0 (Nat.le_refl _) h1
/-- the tokens from i on, with their places -/
def tkL (s : ByteArray) : Nat → Nat → List (Nat × ByteArray)
  | 0, _ => []
  | q + 1, i => if i < s.size then (if bt s i = 32 then tkL s q (i + 1) else (i, s.extract i (enK s i)) :: tkL s q (enK s i)) else []
theorem enF_gt (s : ByteArray) : ∀ q i, i ≤ enF s q i
  | 0, i => Nat.le_refl _
  | q + 1, i => by
    unfold enF
    split
    · exact Nat.le_trans (Nat.le_succ _) (enF_gt s q (i + 1))
    · exact Nat.le_refl _
theorem enK_gt {s : ByteArray} {i : Nat} (h : i < s.size) (hb : bt s i ≠ 32) : i < enK s i := by
  unfold enK
  obtain ⟨q, hq⟩ : ∃ q, s.size - i = q + 1 := ⟨s.size - i - 1, by omega⟩
  rw [hq]
  unfold enF
  rw [if_pos ⟨h, hb⟩]
  exact enF_gt s q (i + 1)
theorem tkL_any (s : ByteArray) : ∀ q q' i, s.size - i ≤ q → s.size - i ≤ q' → tkL s q i = tkL s q' i
  | 0, 0, _, _, _ => rfl
  | 0, q' + 1, i, h, _ => by
    unfold tkL
    rw [if_neg (by omega)]
  | q + 1, 0, i, _, h => by
    unfold tkL
    rw [if_neg (by omega)]
  | q + 1, q' + 1, i, h, h' => by
    unfold tkL
    by_cases c : i < s.size
    · rw [if_pos c, if_pos c]
      by_cases b : bt s i = 32
      · rw [if_pos b, if_pos b]
        exact tkL_any s q q' (i + 1) (by omega) (by omega)
      · have := enK_gt c b
        rw [if_neg b, if_neg b, tkL_any s q q' (enK s i) (by omega) (by omega)]
    · rw [if_neg c, if_neg c]
def tks (s : ByteArray) (i : Nat) : List (Nat × ByteArray) := tkL s (s.size - i) i
theorem tks_end {s : ByteArray} {i : Nat} (h : ¬ i < s.size) : tks s i = [] := by
  unfold tks
  rw [show s.size - i = 0 by omega]
  rfl
theorem tks_sp {s : ByteArray} {i : Nat} (h : i < s.size) (hb : bt s i = 32) : tks s i = tks s (i + 1) := by
  unfold tks
  obtain ⟨q, hq⟩ : ∃ q, s.size - i = q + 1 := ⟨s.size - i - 1, by omega⟩
  rw [hq]
  show (if i < s.size then (if bt s i = 32 then tkL s q (i + 1) else _) else []) = _
  rw [if_pos h, if_pos hb]
  exact tkL_any s q _ (i + 1) (by omega) (Nat.le_refl _)
theorem tks_tok {s : ByteArray} {i : Nat} (h : i < s.size) (hb : bt s i ≠ 32) : tks s i = (i, s.extract i (enK s i)) :: tks s (enK s i) := by
  unfold tks
  obtain ⟨q, hq⟩ : ∃ q, s.size - i = q + 1 := ⟨s.size - i - 1, by omega⟩
  have hg := enK_gt h hb
  rw [hq]
  show (if i < s.size then (if bt s i = 32 then _ else (i, s.extract i (enK s i)) :: tkL s q (enK s i)) else []) = _
  rw [if_pos h, if_neg hb, tkL_any s q (s.size - enK s i) (enK s i) (by omega) (Nat.le_refl _)]
/-- what was read so far: the part (1 behind reach, 2 behind avoid), the two lists -/
structure WS where
  p : Nat
  R : List ByteArray
  A : List ByteArray
def WS.cur (s : WS) : List ByteArray := if s.p = 2 then s.A else s.R
def WS.many (s : WS) : Nat := if s.p = 0 then 1 else s.cur.length
def isA (t : ByteArray) : Bool := t.toList == [97, 118, 111, 105, 100]
def nxP (t : ByteArray) : Nat := if isA t = true then 2 else 1
def gS (l : List ByteArray) (i : Nat) : ByteArray := l[i]!
def addW (s : WS) (t : ByteArray) : WS := if s.p = 2 then { s with A := s.A ++ [t] } else { s with R := s.R ++ [t] }
/-- one token more: (code, place) of a fault, or the state behind it -/
def wsT (q : Nat × ByteArray) (s : WS) : Except (Nat × Int) WS :=
  if 0 ≤ (oddU (bt q.2) q.2.size 0 0).1 then .error (3, (q.1 : Int) + (oddU (bt q.2) q.2.size 0 0).1)
  else if isW q.2 = true then (if nxP q.2 ≤ s.p ∨ s.many = 0 then .error (1, (q.1 : Int)) else .ok { s with p := nxP q.2 })
  else if s.p = 0 then .error (1, (q.1 : Int))
  else if 12 < (oddU (bt q.2) q.2.size 0 0).2 ∨ s.many = 6 then .error (2, (q.1 : Int))
  else if inS (gS s.cur) q.2 s.cur.length = true then .error (4, (q.1 : Int))
  else .ok (addW s q.2)
def wsL (n : Nat) : List (Nat × ByteArray) → WS → Except (Nat × Int) WS
  | [], s => if s.many = 0 then .error (2, (n : Int)) else .ok s
  | q :: l, s => match wsT q s with
    | .error e => .error e
    | .ok s' => wsL n l s'
def rwV (s : ByteArray) : Except (Nat × Int) WS := if 200 < s.size then .error (5, 0) else wsL s.size (tks s 0) ⟨0, [], []⟩
/-- what holds of every state -/
structure WsOk (s : WS) : Prop where
  p : s.p ≤ 2
  r : s.R.length ≤ 6
  a : s.A.length ≤ 6
  a0 : s.p ≤ 1 → s.A = []
  r0 : s.p = 0 → s.R = []
theorem ws0 : WsOk ⟨0, [], []⟩ := ⟨by decide, by decide, by decide, fun _ => rfl, fun _ => rfl⟩
theorem nxP_bd (t : ByteArray) : 1 ≤ nxP t ∧ nxP t ≤ 2 := by unfold nxP; split <;> omega
theorem wsT_ok {q : Nat × ByteArray} {s s' : WS} (h : WsOk s) (e : wsT q s = .ok s') : WsOk s' := by
  have hp := h.p
  have hr := h.r
  have ha := h.a
  unfold wsT at e
  split at e
  · cases e
  · split at e
    · split at e
      · cases e
      · rename_i c
        cases e
        have hn := nxP_bd q.2
        exact ⟨hn.2, hr, ha, fun h1 => h.a0 (by simp only at h1; omega), fun h1 => by simp only at h1; omega⟩
    · split at e
      · cases e
      · rename_i c0
        split at e
        · cases e
        · rename_i c1
          split at e
          · cases e
          · cases e
            have hm : s.cur.length ≠ 6 := fun h6 => c1 (.inr (by unfold WS.many; rw [if_neg c0]; exact h6))
            unfold addW
            unfold WS.cur at hm
            by_cases c2 : s.p = 2
            · rw [if_pos c2] at hm ⊢
              exact ⟨hp, hr, by simp only [List.length_append, List.length_singleton]; omega, fun h1 => by simp only at h1; omega, fun h1 => by simp only at h1; omega⟩
            · rw [if_neg c2] at hm ⊢
              exact ⟨hp, by simp only [List.length_append, List.length_singleton]; omega, ha, h.a0, fun h1 => absurd h1 c0⟩
end Go.Proofs.YtmlfijapndkfhaaDoor
