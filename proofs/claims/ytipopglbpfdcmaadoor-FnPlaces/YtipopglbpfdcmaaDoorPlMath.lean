/- Numbers alone: how far one sees is at most 16; each place is seen at one distance; what a step comes to are places. -/
import Derived.Test.YtipopglbpfdcmaaDoorClSee
import Derived.Test.YtipopglbpfdcmaaDoorStSpec
namespace Go.Proofs.YtipopglbpfdcmaaDoor
open Go.RowKit

theorem fc_at {W H : Int} {f : Nat → Int} {v : Nat} : ∀ (k : Nat) (x y : Int) (j : Nat), 1 ≤ j → j ≤ fc W H f v k x y → fre W H f (x + (j : Int) * dX v) (y + (j : Int) * dY v) = true := by
  intro k
  induction k with
  | zero => intro x y j h1 h2; simp [fc] at h2; omega
  | succ k ih =>
    intro x y j h1 h2
    unfold fc at h2
    cases hq : fre W H f (x + dX v) (y + dY v) with
    | false => rw [hq] at h2; simp at h2; omega
    | true =>
      rw [hq] at h2
      simp only [if_true] at h2
      by_cases e : j = 1
      · subst e; simpa using hq
      · have h3 := ih (x + dX v) (y + dY v) (j - 1) (by omega) (by omega)
        have e1 : x + dX v + ((j - 1 : Nat) : Int) * dX v = x + (j : Int) * dX v := by
          have : ((j : Nat) : Int) * dX v = ((j - 1 : Nat) : Int) * dX v + dX v := by
            have : (j : Int) = ((j - 1 : Nat) : Int) + 1 := by omega
            rw [this, Int.add_mul]; simp
          omega
        have e2 : y + dY v + ((j - 1 : Nat) : Int) * dY v = y + (j : Int) * dY v := by
          have : ((j : Nat) : Int) * dY v = ((j - 1 : Nat) : Int) * dY v + dY v := by
            have : (j : Int) = ((j - 1 : Nat) : Int) + 1 := by omega
            rw [this, Int.add_mul]; simp
          omega
        rw [e1, e2] at h3; exact h3
theorem farN_le {W H : Int} {f : Nat → Int} {v p n : Nat} (hW : 1 ≤ W) (hW2 : W ≤ 16) (hH2 : H ≤ 16) (hH : H * W = (n : Int)) (hv : v < 4) (hp : p < n) : farN W H f v p ≤ 16 := by
  by_cases h : farN W H f v p ≤ 16
  · exact h
  · exfalso
    unfold farN at h
    have hq := (kA_free (fc_at (W := W) (H := H) (f := f) (v := v) 17 ((p : Int) % W) ((p : Int) / W) 17 (by omega) (by omega))).2
    have hx0 := Int.emod_nonneg (p : Int) (show W ≠ 0 by omega)
    have hx1 := Int.emod_lt_of_pos (p : Int) (show 0 < W by omega)
    have hy0 : 0 ≤ (p : Int) / W := Int.ediv_nonneg (by omega) (by omega)
    have hy1 : (p : Int) / W < H := by
      refine Int.ediv_lt_of_lt_mul (by omega) ?_
      rw [hH]; omega
    generalize (p : Int) % W = X at *
    generalize (p : Int) / W = Y at *
    rcases d_bd v hv with ⟨e1, e2⟩ | ⟨e1, e2⟩ | ⟨e1, e2⟩ | ⟨e1, e2⟩ <;> rw [e1, e2] at hq <;> omega
/-- how many of the first m places are seen at a distance below R -/
def cnt17 (h : Int → Int) (g : Nat → Int) (m : Nat) : Nat → Nat
  | 0 => 0
  | R + 1 => cnt17 h g m R + (sl h g (R : Int) m).length
theorem sl_succ_len (h : Int → Int) (g : Nat → Int) (r : Int) (k : Nat) : (sl h g r (k + 1)).length = (sl h g r k).length + if h (g k) = r then 1 else 0 := by
  show (if h (g k) = r then sl h g r k ++ [g k] else sl h g r k).length = _
  split <;> simp
theorem cnt17_succ (h : Int → Int) (g : Nat → Int) (m R : Nat) : cnt17 h g (m + 1) R = cnt17 h g m R + if 0 ≤ h (g m) ∧ h (g m) < (R : Int) then 1 else 0 := by
  induction R with
  | zero =>
    rw [if_neg (by omega)]
    simp [cnt17]
  | succ R ih =>
    show cnt17 h g (m + 1) R + (sl h g (R : Int) (m + 1)).length = cnt17 h g m R + (sl h g (R : Int) m).length + _
    rw [ih, sl_succ_len]
    by_cases e1 : h (g m) = (R : Int)
    · rw [if_neg (by omega), if_pos e1, if_pos (by omega)]; omega
    · rw [if_neg e1]
      by_cases e2 : 0 ≤ h (g m) ∧ h (g m) < (R : Int)
      · rw [if_pos e2, if_pos (by omega)]; omega
      · rw [if_neg e2, if_neg (by omega)]; omega
theorem cnt17_all (h : Int → Int) (g : Nat → Int) (m R : Nat) (hb : ∀ j, j < m → 0 ≤ h (g j) ∧ h (g j) < (R : Int)) : cnt17 h g m R = m := by
  induction m with
  | zero =>
    clear hb
    induction R with
    | zero => rfl
    | succ R ih => show cnt17 h g 0 R + (sl h g (R : Int) 0).length = 0; rw [ih]; rfl
  | succ m ih => rw [cnt17_succ, ih (fun j hj => hb j (by omega)), if_pos (hb m (by omega))]
theorem cnt17_le (h : Int → Int) (g : Nat → Int) (m R : Nat) : cnt17 h g m R ≤ m := by
  induction m with
  | zero =>
    have : cnt17 h g 0 R = 0 := by
      induction R with
      | zero => rfl
      | succ R ih => show cnt17 h g 0 R + (sl h g (R : Int) 0).length = 0; rw [ih]; rfl
    omega
  | succ m ih => rw [cnt17_succ]; split <;> omega
/-- far sees are below 17 -/
theorem see_bd {W : Int} {n m : Nat} {f g : Nat → Int} {v : Int} (hq : seeQ W n f m g v = true) : ∀ j, j < m → 0 ≤ (fun p => farV W n f p v) (g j) ∧ (fun p => farV W n f p v) (g j) < ((17 : Nat) : Int) := fun j hj => by
  have hq2 : undB W n f m g = true ∧ wayB v = true := by simpa [seeQ] using hq
  have hu2 : celB W n f = true ∧ plsB n f g m = true := by simpa [undB] using hq2.1
  have hv := wayB_t hq2.2
  have hs := (celB_parts hu2.1).1
  obtain ⟨hH, hH1, hH2⟩ := hgt_mul hs
  obtain ⟨hW1, hW2, -, -, -⟩ := sizedB_t hs
  have h1 := (plsB_at hu2.2 hj).1
  have h2 := frB_t h1
  show 0 ≤ farV W n f (g j) v ∧ farV W n f (g j) v < 17
  unfold farV
  rw [hu2.1, h1, hq2.2]
  have := farN_le (f := f) (v := v.toNat) (p := (g j).toNat) hW1 hW2 hH2 hH (by omega) (by omega)
  simp only [Bool.and_self, if_true]
  omega
theorem stN_free {W : Int} {n : Nat} {f : Nat → Int} {v p : Nat} (h : f p = 0) : f (stN W (hgt W n) f v p).toNat = 0 := by
  unfold stN
  cases hq : fre W (hgt W n) f ((p : Int) % W + dX v) ((p : Int) / W + dY v) with
  | false => simpa using h
  | true => simpa using (fre_hv hq).2
theorem ord_pls {n : Nat} {f T : Nat → Int} (hT : ∀ i, i < n → T i = 1 → f i = 0) (k : Nat) (hk : k ≤ (ord T n).length) : plsB n f (gl (ord T n)) k = true := by
  have hup := List.pairwise_iff_getElem.1 (ord_up T n)
  have hg : ∀ i (h : i < (ord T n).length), gl (ord T n) i = (ord T n)[i] := fun i h => by simp [gl, List.getD, h]
  induction k with
  | zero => rfl
  | succ k ih =>
    unfold plsB
    rw [ih (by omega), hg k (by omega)]
    have hm := (ord_mem T n (ord T n)[k]).1 (List.getElem_mem _)
    obtain ⟨i, hi, h1, h2⟩ := hm
    have hfr : frB n f (ord T n)[k] = true := by
      rw [← h2]
      exact frB_mk ⟨by omega, by omega, by rw [Int.toNat_natCast]; exact hT i hi h1⟩
    rw [hfr]
    by_cases e : k = 0
    · subst e; simp
    · have h3 := hup (k - 1) k (by omega) (by omega) (by omega)
      rw [hg (k - 1) (by omega)]
      simp [h3]
theorem stp_und {W : Int} {n m : Nat} {f g : Nat → Int} {v : Int} (hq : seeQ W n f m g v = true) : seeQ W n f (stpL W n f m g v).length (gl (stpL W n f m g v)) v = true := by
  have hq2 : undB W n f m g = true ∧ wayB v = true := by simpa [seeQ] using hq
  have hu2 : celB W n f = true ∧ plsB n f g m = true := by simpa [undB] using hq2.1
  have e : stpL W n f m g v = ord (mkd (fun p => stN W (hgt W n) f v.toNat p.toNat) g m) n := by unfold stpL; rw [hq]; rfl
  have hp : plsB n f (gl (stpL W n f m g v)) (stpL W n f m g v).length = true := by
    rw [e]
    refine ord_pls (fun i hi h1 => ?_) _ (Nat.le_refl _)
    obtain ⟨j, hj, h2⟩ := (mkd_iff _ g m i).1 h1
    have h3 := frB_t (plsB_at hu2.2 hj).1
    have h4 := stN_free (W := W) (n := n) (v := v.toNat) h3.2.2
    have h5 : stN W (hgt W n) f v.toNat (g j).toNat = (i : Int) := h2
    rw [h5, Int.toNat_natCast] at h4
    exact h4
  simp [seeQ, undB, hu2.1, hq2.2, hp]
theorem stp_le {W : Int} {n m : Nat} {f g : Nat → Int} {v : Int} : (stpL W n f m g v).length ≤ m := by
  unfold stpL
  cases hq : seeQ W n f m g v with
  | false => simp
  | true =>
    have hq2 : undB W n f m g = true ∧ wayB v = true := by simpa [seeQ] using hq
    have hu2 : celB W n f = true ∧ plsB n f g m = true := by simpa [undB] using hq2.1
    have hs := (celB_parts hu2.1).1
    obtain ⟨hH, hH1, hH2⟩ := hgt_mul hs
    have hb : ∀ j, j < m → 0 ≤ (fun p : Int => stN W (hgt W n) f v.toNat p.toNat) (g j) ∧ (fun p : Int => stN W (hgt W n) f v.toNat p.toNat) (g j) < n := fun j hj => by
      have h3 := frB_t (plsB_at hu2.2 hj).1
      exact stN_bd hH (by omega)
    have he := step_eq (fun p : Int => stN W (hgt W n) f v.toNat p.toNat) g n m hb
    simp only [if_true]
    rw [← he]
    have hcl : ∀ s : List Int, (Lib.compact s).length ≤ s.length := fun s => by unfold Lib.compact Lib.compactUpTo; rw [List.length_map]; exact Nat.le_trans (List.length_filter_le _ _) (by simp)
    refine Nat.le_trans (hcl _) ?_
    rw [List.length_mergeSort, sts_len]
    exact Nat.le_refl _
end Go.Proofs.YtipopglbpfdcmaaDoor
