/- Doubles side by side left out: numbers and memory. -/
import Derived.Test.YteknkgfgefhloaaMgS
import Derived.Lib.SliceRun
namespace Go.Proofs.Yteknkgfgefhloaa
open Go.RowKit
/-- the first k words, doubles side by side left out -/
def cpW (W : Nat → Sw) : Nat → List Sw
  | 0 => []
  | k + 1 => if k = 0 ∨ W k ≠ W (k - 1) then cpW W k ++ [W k] else cpW W k
theorem cpW_le (W : Nat → Sw) : ∀ k, (cpW W k).length ≤ k
  | 0 => Nat.le_refl _
  | k + 1 => by
    have := cpW_le W k
    rw [cpW]
    split
    · simp; omega
    · omega
theorem cpW_same {W : Nat → Sw} {k : Nat} (h0 : 0 < k) (h : W k = W (k - 1)) : cpW W (k + 1) = cpW W k := by
  rw [cpW, if_neg (fun c => c.elim (fun e => by omega) (fun e => e h))]
theorem cpW_new {W : Nat → Sw} {k : Nat} (h : W k ≠ W (k - 1)) : cpW W (k + 1) = cpW W k ++ [W k] := by
  rw [cpW, if_pos (.inr h)]
theorem cpW_all {W : Nat → Sw} : ∀ {k : Nat}, (∀ j, j < k → j = 0 ∨ W j ≠ W (j - 1)) → cpW W k = (List.range k).map W
  | 0, _ => rfl
  | k + 1, h => by
    rw [cpW, if_pos (h k (Nat.lt_succ_self k)), cpW_all fun j hj => h j (by omega), List.range_succ, List.map_append]
    rfl
theorem cpt_snoc : ∀ (l : List Sw) (y x : Sw), cpt (l ++ [y, x]) = if y = x then cpt (l ++ [y]) else cpt (l ++ [y]) ++ [x]
  | [], y, x => by
    by_cases h : y = x
    · subst h; simp [cpt]
    · simp [cpt, h]
  | [z], y, x => by
    show cpt (z :: y :: [x]) = if y = x then cpt (z :: y :: []) else cpt (z :: y :: []) ++ [x]
    by_cases h : y = x <;> by_cases g : z = y <;> simp [cpt, h, g]
  | z :: z' :: l, y, x => by
    have ih := cpt_snoc (z' :: l) y x
    simp only [List.cons_append] at ih ⊢
    rw [cpt, cpt, ih]
    by_cases h : y = x <;> by_cases g : z = z' <;> simp [h, g]
theorem cpW_cpt (W : Nat → Sw) : ∀ n, cpW W n = cpt ((List.range n).map W)
  | 0 => rfl
  | 1 => rfl
  | n + 2 => by
    have ih := cpW_cpt W (n + 1)
    have e1 : (List.range (n + 1)).map W = (List.range n).map W ++ [W n] := by rw [List.range_succ, List.map_append]; rfl
    have e2 : (List.range (n + 2)).map W = (List.range n).map W ++ [W n, W (n + 1)] := by rw [List.range_succ, List.range_succ, List.map_append, List.map_append, List.append_assoc]; rfl
    rw [e1] at ih
    rw [e2, cpt_snoc, ← ih]
    by_cases h : W (n + 1) = W n
    · rw [cpW_same (Nat.succ_pos n) h, if_pos h.symm]
    · rw [cpW_new (k := n + 1) h, if_neg (Ne.symm h)]
/-- the words of L ahead, what was there behind -/
def mixS (L : List Sw) (F : Nat → Int) (t : Nat) : Int := if t < L.length * 3 then flS L t else F t
theorem flS_app_lt {L : List Sw} {x : Sw} {t : Nat} (h : t < L.length * 3) : flS (L ++ [x]) t = flS L t := by
  have : t / 3 < L.length := by omega
  simp [flS, List.getD, List.getElem?_append_left this]
theorem mixS_app (L : List Sw) (F : Nat → Int) (x : Sw) (t : Nat) :
    put (put (put (mixS L F) (L.length * 3) x.1) (L.length * 3 + 1) x.2.1) (L.length * 3 + 2) x.2.2 t = mixS (L ++ [x]) F t := by
  unfold put mixS
  by_cases h : t < L.length * 3
  · rw [if_neg (by omega), if_neg (by omega), if_neg (by omega), if_pos h, if_pos (by simp; omega), flS_app_lt h]
  · by_cases h3 : t < L.length * 3 + 3
    · have hd : t / 3 = L.length := by omega
      have hf : flS (L ++ [x]) t = cS x (t % 3) := by simp [flS, List.getD, hd]
      rw [if_pos (show t < (L ++ [x]).length * 3 by simp; omega), hf]
      unfold cS
      have : t = L.length * 3 ∨ t = L.length * 3 + 1 ∨ t = L.length * 3 + 2 := by omega
      rcases this with e | e | e
      · rw [if_neg (by omega), if_neg (by omega), if_pos e, if_pos (by omega)]
      · rw [if_neg (by omega), if_pos e, if_neg (by omega), if_pos (by omega)]
      · rw [if_pos e, if_neg (by omega), if_neg (by omega)]
    · rw [if_neg (by omega), if_neg (by omega), if_neg (by omega), if_neg h, if_neg (by simp; omega)]
theorem mixS_hi {L : List Sw} {F : Nat → Int} {t : Nat} (h : L.length * 3 ≤ t) : mixS L F t = F t := if_neg (by omega)
theorem mixS_lo {L : List Sw} {F : Nat → Int} {t : Nat} (h : t < L.length * 3) : mixS L F t = flS L t := if_pos h
theorem mixS_all {F : Nat → Int} {k t : Nat} (L : List Sw) (e : L = (List.range k).map (swF F)) : mixS L F t = F t := by
  unfold mixS
  by_cases h : t < L.length * 3
  · rw [if_pos h]
    subst e
    have hd : t / 3 < k := by simpa using (show t / 3 < ((List.range k).map (swF F)).length by omega)
    have e1 : ((List.range k).map (swF F)).getD (t / 3) (0, 0, 0) = swF F (t / 3) := by simp [List.getD, hd]
    unfold flS
    rw [e1]
    unfold cS swF
    have : t % 3 = 0 ∨ t % 3 = 1 ∨ t % 3 = 2 := by omega
    rcases this with m | m | m <;> rw [m] <;> simp <;> congr 1 <;> omega
  · rw [if_neg h]
theorem clear_ip {b p : Nat} {F : Nat → Int} : ∀ (vs : List Value) (o : Nat) (w : World), p ≤ o → IP w b p F → IP (w.setCells b o vs) b p F ∧ Only b w (w.setCells b o vs)
  | [], _, w, _, h => ⟨h, Only.refl _ _⟩
  | v :: r, o, w, ho, h => by
    have h1 : IP (w.setCell ⟨b, o, none⟩ v) b p F := by
      refine ⟨by simpa using h.lt, fun i hi => ?_, fun j => ?_⟩
      · rw [World.cell?_setCell_other _ _ _ _ (by simp <;> omega)]; exact h.c i hi
      · simpa using h.fz j
    obtain ⟨a, c⟩ := clear_ip r (o + 1) _ (by omega) h1
    exact ⟨a, ((Only.refl b w).set o v).trans c⟩
end Go.Proofs.Yteknkgfgefhloaa
