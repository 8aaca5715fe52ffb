/- What the bus sent, looked at as BusFine looks at it: as numbers. -/
import Derived.Test.YtldagjgpapnfpaaQBuSM
namespace Go.Proofs.Ytldagjgpapnfpaa
open Go.RowKit
/-- how it stands behind some that were sent: frames that left, errors, frames sent in the window, the last round -/
structure FS where
  AT : Nat → Nat
  ER : Nat → Int
  US : Nat → Int
  last : Int
def usW (W rr : Int) (f : FS) (i : Nat) : Int := if f.last < 0 ∨ rr / W ≠ f.last / W then 0 else f.US i
def fsS (W : Int) (f : FS) (x : Int × Int × Int × Bool) : FS :=
  { AT := fun j => if (j : Int) = x.2.1 ∧ x.2.2.2 = true then f.AT j + 1 else f.AT j
    ER := fun j => if (j : Int) = x.2.1 then (if x.2.2.2 = true then (if 0 < f.ER j then f.ER j - 1 else f.ER j) else (if 255 < f.ER j + 8 then 255 else f.ER j + 8)) else f.ER j
    US := fun j => if (j : Int) = x.2.1 then usW W x.1 f j + 1 else usW W x.1 f j
    last := x.1 }
def fsL (t : Tks) (W : Int) (l : List (Int × Int × Int × Bool)) : FS := l.foldl (fsS W) ⟨fun _ => 0, t.er, fun _ => 0, -1⟩
theorem fsL_app (t : Tks) (W : Int) (l : List (Int × Int × Int × Bool)) (x : Int × Int × Int × Bool) : fsL t W (l ++ [x]) = fsS W (fsL t W l) x := by
  unfold fsL
  rw [List.foldl_append]
  rfl
/-- may he talk -/
def conF (t : Tks) (us : Nat → Int) (f : FS) (i : Nat) : Prop := f.ER i ≠ 255 ∧ f.AT i < t.qm i ∧ us i < t.sh i
/-- one that was sent is fine -/
structure GdX (t : Tks) (n : Nat) (W : Int) (f : FS) (x : Int × Int × Int × Bool) : Prop where
  who : ∃ K : Nat, K < n ∧ x.2.1 = (K : Int) ∧ conF t (usW W x.1 f) f K ∧ t.I K (f.AT K) = x.2.2.1
  lt : f.last < x.1 ∧ 0 ≤ x.1
  le : ∀ i, i < n → conF t (usW W x.1 f) f i → x.2.2.1 ≤ t.I i (f.AT i)
structure FsOk (t : Tks) (n : Nat) (W : Int) (r : Nat) (s : BS) : Prop where
  g : ∀ q, q < s.out.length → ∃ x, s.out[q]? = some x ∧ GdX t n W (fsL t W (s.out.take q)) x ∧ x.1 < (r : Int)
  at_ : ∀ i, i < n → (fsL t W s.out).AT i = s.LF i
  er : ∀ i, i < n → (fsL t W s.out).ER i = s.EC i
  l0 : -1 ≤ (fsL t W s.out).last ∧ (fsL t W s.out).last < (r : Int)
  us : ∀ i, i < n → wndS W r s i = usW W (r : Int) (fsL t W s.out) i
theorem div_next {r W : Int} (hW : 1 ≤ W) (h : (r + 1) % W ≠ 0) : (r + 1) / W = r / W := by
  have h1 := Int.emod_add_mul_ediv (r + 1) W
  have h2 := Int.emod_nonneg (r + 1) (show W ≠ 0 by omega)
  have h3 := Int.emod_lt_of_pos (r + 1) (show 0 < W by omega)
  generalize (r + 1) % W = q at *
  generalize (r + 1) / W = d at *
  have e : r = q - 1 + W * d := by omega
  rw [e, Int.add_mul_ediv_left _ _ (show W ≠ 0 by omega), Int.ediv_eq_zero_of_lt (by omega) (by omega), Int.zero_add]
theorem div_less {r W l : Int} (hW : 1 ≤ W) (h : (r + 1) % W = 0) (hl : l ≤ r) : (r + 1) / W ≠ l / W := by
  intro e
  have h1 := Int.emod_add_mul_ediv (r + 1) W
  have h2 := Int.emod_add_mul_ediv l W
  have h3 := Int.emod_nonneg l (show W ≠ 0 by omega)
  rw [← e] at h2
  omega
theorem us_next (W : Int) (r : Nat) (f : FS) (i : Nat) (hW : 1 ≤ W) (hl : f.last ≤ (r : Int)) : usW W ((r + 1 : Nat) : Int) f i = if ((r + 1 : Nat) : Int) % W = 0 then 0 else usW W (r : Int) f i := by
  have ec : ((r + 1 : Nat) : Int) = (r : Int) + 1 := by omega
  rw [ec]
  unfold usW
  by_cases h0 : ((r : Int) + 1) % W = 0
  · rw [if_pos h0]
    by_cases h1 : f.last < 0
    · rw [if_pos (.inl h1)]
    · rw [if_pos (.inr (div_less hW h0 hl))]
  · rw [if_neg h0, div_next hW h0]
theorem ct_all (t : Tks) (LF : Nat → Nat) (SE EC : Nat → Int) {i : Nat} (h : myB (t.qm i) (t.sh i) (LF i) (SE i) (EC i) = true) : ∀ k, i < k → i ∈ ctL t LF SE EC k
  | 0, hk => absurd hk (Nat.not_lt_zero _)
  | k + 1, hk => by
    unfold ctL
    by_cases e : i = k
    · subst e
      rw [if_pos h]
      simp
    · have := ct_all t LF SE EC h k (by omega)
      split
      · exact List.mem_append_left _ this
      · exact this
theorem my_iff (qm : Nat) (sh : Int) (lf : Nat) (se ec : Int) : myB qm sh lf se ec = true ↔ ec ≠ 255 ∧ lf < qm ∧ se < sh := by
  unfold myB
  simp
/-- who is next has the least id -/
theorem nx_least (t : Tks) (LF : Nat → Nat) (l : List Nat) (h0 : l ≠ []) (hb : ∀ i, i ∈ l → 0 ≤ t.I i (LF i) ∧ t.I i (LF i) ≤ 2047) {i : Nat} (hi : i ∈ l) : t.I (nxK t LF l) (LF (nxK t LF l)) ≤ t.I i (LF i) := by
  have hn : 0 < l.length := List.length_pos_iff.2 h0
  obtain ⟨k, hk⟩ := Fst.some (lv_alive l.length (ctF t LF l) hn 11)
  obtain ⟨j, hj, e⟩ := List.getElem_of_mem hi
  have hD : ∀ q, q < l.length → l.getD q 0 ∈ l := fun q hq => by
    simp [List.getD, List.getElem?_eq_getElem hq]
  have h := (least_first l.length (ctF t LF l) (fun q hq => hb _ (hD q hq)) k hk j hj).1
  unfold nxK
  rw [hk.is]
  have ej : l.getD j 0 = i := by simp [List.getD, List.getElem?_eq_getElem hj, e]
  unfold ctF at h
  rw [ej] at h
  exact h
theorem run_fine (t : Tks) (n : Nat) (W : Int) (sp : Nat → Bool) (hW : 1 ≤ W) (hf : ∀ i, i < n → (0 ≤ t.er i ∧ t.er i ≤ 255) ∧ ∀ j, j < t.qm i → 0 ≤ t.I i j ∧ t.I i j ≤ 2047) : ∀ r, FsOk t n W r (runS t n W sp r)
  | 0 => ⟨fun q hq => absurd hq (Nat.not_lt_zero _), fun _ _ => rfl, fun _ _ => rfl, ⟨Int.le_refl _, by show (-1 : Int) < ((0 : Nat) : Int); omega⟩, fun i _ => by
    show wndS W 0 _ i = usW W ((0 : Nat) : Int) (fsL t W []) i
    unfold wndS usW
    rw [if_pos (by simp), if_pos (.inl (by show (-1 : Int) < 0; omega))]⟩
  | r + 1 => by
    have ih := run_fine t n W sp hW hf r
    have hok := run_ok t n W sp (fun i hi => (hf i hi).1) r
    show FsOk t n W (r + 1) (stpS t n W sp r (runS t n W sp r))
    generalize runS t n W sp r = s at ih hok
    have hus := fun i => us_next W r (fsL t W s.out) i hW (by have := ih.l0; omega)
    have hwx : ∀ (s' : BS) (i : Nat), wndS W (r + 1) s' i = if ((r + 1 : Nat) : Int) % W = 0 then 0 else s'.SE i := fun s' i => by unfold wndS; split <;> rfl
    unfold stpS
    by_cases hc : conS t n W r s = []
    · rw [if_pos hc]
      refine ⟨fun q hq => by
        obtain ⟨x, h1, h2, h3⟩ := ih.g q hq
        exact ⟨x, h1, h2, by omega⟩, ih.at_, ih.er, ⟨ih.l0.1, by have := ih.l0.2; show (fsL t W s.out).last < ((r + 1 : Nat) : Int); omega⟩, fun i hi => ?_⟩
      rw [hwx, hus]
      simp only
      rw [ih.us i hi]
    · rw [if_neg hc]
      have hmem := nxK_mem t s.LF (conS t n W r s) hc
      have hct := fun i (h : i ∈ conS t n W r s) => ctL_mem t s.LF (wndS W r s) s.EC n i h
      obtain ⟨hKn, hKm⟩ := hct _ hmem
      have hle := fun {i : Nat} => nx_least t s.LF (conS t n W r s) hc (fun i hi => (hf i (hct i hi).1).2 _ ((my_iff _ _ _ _ _).1 (hct i hi).2).2.1) (i := i)
      generalize nxK t s.LF (conS t n W r s) = K at hmem hKn hKm hle
      have hGd : GdX t n W (fsL t W s.out) ((r : Int), (K : Int), t.I K (s.LF K), !(sp r)) := by
        refine ⟨⟨K, hKn, rfl, ?_, by rw [ih.at_ K hKn]⟩, ⟨ih.l0.2, by show (0 : Int) ≤ (r : Int); omega⟩, fun i hi hcon => ?_⟩
        · have := (my_iff _ _ _ _ _).1 hKm
          unfold conF
          rw [ih.er K hKn, ih.at_ K hKn, ← ih.us K hKn]
          exact this
        · unfold conF at hcon
          rw [ih.er i hi, ih.at_ i hi, ← ih.us i hi] at hcon
          rw [ih.at_ i hi]
          exact hle (ct_all t s.LF (wndS W r s) s.EC ((my_iff _ _ _ _ _).2 hcon) n hi)
      have hus2 := fun i => us_next W r (fsS W (fsL t W s.out) ((r : Int), (K : Int), t.I K (s.LF K), !(sp r))) i hW (Int.le_refl _)
      have hu3 : ∀ i, usW W (r : Int) (fsS W (fsL t W s.out) ((r : Int), (K : Int), t.I K (s.LF K), !(sp r))) i = if (i : Int) = (K : Int) then usW W (r : Int) (fsL t W s.out) i + 1 else usW W (r : Int) (fsL t W s.out) i := fun i => by
        show (if (r : Int) < 0 ∨ (r : Int) / W ≠ (r : Int) / W then 0 else _) = _
        rw [if_neg (by omega)]
        rfl
      refine ⟨fun q hq => ?_, fun i hi => ?_, fun i hi => ?_, ?_, fun i hi => ?_⟩
      · simp only [List.length_append, List.length_singleton] at hq
        by_cases e : q < s.out.length
        · obtain ⟨x, h1, h2, h3⟩ := ih.g q e
          refine ⟨x, ?_, ?_, by omega⟩
          · simp only
            rw [List.getElem?_append_left e]
            exact h1
          · simp only
            rw [List.take_append_of_le_length (Nat.le_of_lt e)]
            exact h2
        · have eq : q = s.out.length := by omega
          subst eq
          refine ⟨_, by simp only; rw [List.getElem?_append_right (Nat.le_refl _), Nat.sub_self]; rfl, ?_, by show (r : Int) < ((r + 1 : Nat) : Int); omega⟩
          simp only
          rw [List.take_append_of_le_length (Nat.le_refl _), List.take_length]
          exact hGd
      · simp only
        rw [fsL_app]
        show (if (i : Int) = (K : Int) ∧ (!(sp r)) = true then (fsL t W s.out).AT i + 1 else (fsL t W s.out).AT i) = _
        rw [ih.at_ i hi]
        unfold snL
        by_cases e : i = K
        · subst e
          rw [if_pos rfl]
          simp
        · rw [if_neg e, if_neg (by omega)]
      · simp only
        rw [fsL_app]
        show (if (i : Int) = (K : Int) then (if (!(sp r)) = true then (if 0 < (fsL t W s.out).ER i then (fsL t W s.out).ER i - 1 else (fsL t W s.out).ER i) else (if 255 < (fsL t W s.out).ER i + 8 then 255 else (fsL t W s.out).ER i + 8)) else (fsL t W s.out).ER i) = _
        rw [ih.er i hi]
        have hb := hok.ec i hi
        by_cases e : i = K
        · subst e
          rw [if_pos rfl, if_pos rfl]
          cases sp r with
          | true =>
            show (if (false = true) then _ else _) = snE false _
            rw [if_neg (by decide), snE_bad hb]
            split <;> split <;> omega
          | false =>
            show (if (true = true) then _ else _) = snE true _
            rw [if_pos rfl, snE_good hb]
        · rw [if_neg e, if_neg (by omega)]
      · simp only
        rw [fsL_app]
        show -1 ≤ (r : Int) ∧ (r : Int) < ((r + 1 : Nat) : Int)
        omega
      · simp only
        rw [hwx, fsL_app, hus2, hu3]
        show (if ((r + 1 : Nat) : Int) % W = 0 then 0 else (if i = K then wndS W r s i + 1 else wndS W r s i)) = _
        rw [ih.us i hi]
        by_cases e : i = K
        · subst e
          simp
        · have e2 : ¬ (i : Int) = (K : Int) := by omega
          rw [if_neg e, if_neg e2]
end Go.Proofs.Ytldagjgpapnfpaa
