/- Numbers alone: there are dues just where who costs least; what BestAssign tells costs least. -/
import Derived.Test.YtjmdghkhapajiaaAsLeM
import Derived.Test.YtjmdghkhapajiaaAsBeM
namespace Go.Proofs.Ytjmdghkhapajiaa
open Go.RowKit
section
variable {n m : Nat} {K : Nat → Nat} {F : Nat → Nat → Int} {g h : Nat → Int}
theorem du_endN (ga : GA n m K F g) {N : Nat} (hN : n ≤ N) (h : duQ F g n N = false) : ∃ r, r < n ∧ duQ F g n r = false := by
  have hg : ∀ i, i < n → (g i).toNat < n := fun i hi => by have := ga.bd i hi; omega
  have h1 := ga.gp.lo
  have hf : Fea n F g (duD F g n N) := fea_of h
  have hS0 : ∃ x, x < n ∧ eqP F g n N 0 x = true := by
    by_cases c : ∀ x, x < n → ¬ duD F g n N x = 0
    · exfalso
      have hle := fun x => duD_mono (F := F) (g := g) (n := n) x 0 N (by omega)
      have hP : Fea n F g (fun x => duD F g n N x + 1) := fun i b hi hb => by
        have := hf i b hi hb
        show duD F g n N (g i).toNat + 1 ≤ F i b + (duD F g n N b + 1) - F i (g i).toNat
        omega
      have := duD_ge hP (r := 0) (fun x hx => by
        have h2 := hle x
        have h3 := c x hx
        have h4 : duD F g n 0 x = 0 := rfl
        show duD F g n N x + 1 ≤ duD F g n 0 x
        omega) N (by omega) 0 (by omega)
      have h5 : duD F g n N 0 + 1 ≤ duD F g n N 0 := this
      omega
    · obtain ⟨x, hx, hx2⟩ := not_all c
      refine ⟨x, hx, decide_eq_true ?_⟩
      have h4 : duD F g n 0 x = 0 := rfl
      omega
  have hcnt : ∀ r, r < n → r + 1 ≤ cnt (eqP F g n N r) n := by
    intro r
    induction r with
    | zero => intro _; obtain ⟨x, hx, hx2⟩ := hS0; exact cnt_pos hx2 hx
    | succ r ih =>
      intro hr
      have k := ih (by omega)
      by_cases c : ∀ x, x < n → eqP F g n N r x = true
      · rw [cnt_full fun x hx => eqP_mono (by omega) x (c x hx)]; omega
      · obtain ⟨y, hy, e1, e2⟩ := eqP_more hg hf (by omega) c
        have := cnt_lt (fun x => eqP_mono (F := F) (g := g) (n := n) (N := N) (r := r) (by omega) x) e1 e2 hy
        omega
  obtain ⟨k, rfl⟩ : ∃ k, n = k + 1 := ⟨n - 1, by omega⟩
  have hall := cnt_all (Nat.le_antisymm (cnt_le _ _) (hcnt k (by omega)))
  refine ⟨k, by omega, (rndQ_not (fea_cg hg hf fun x hx => (of_decide_eq_true (hall x hx)).symm) (Nat.le_refl _)).1⟩
theorem sm_lw (ga : GA n n K F g) {i : Nat} (hi : i < n) (b : Nat) (D : Nat → Int) : smI (lwD F g i b D) n + (if loB F g i b D = true then 1 else 0) ≤ smI D n := by
  unfold lwD
  split
  · rename_i e
    have e := of_decide_eq_true e
    have h1 := ga.bd i hi
    rw [smI_put, if_pos (by omega)]
    omega
  · omega
theorem sm_row (ga : GA n n K F g) {i : Nat} (hi : i < n) (D : Nat → Int) (q : Bool) : ∀ b, smI (rowD F g i D b) n + (if rowQ F g i D q b = true then 1 else 0) ≤ smI D n + (if q = true then 1 else 0)
  | 0 => Int.le_refl _
  | b + 1 => by
    have ih := sm_row ga hi D q b
    have k := sm_lw ga hi b (rowD F g i D b)
    show smI (lwD F g i b (rowD F g i D b)) n + (if (rowQ F g i D q b || loB F g i b (rowD F g i D b)) = true then 1 else 0) ≤ _
    cases h1 : rowQ F g i D q b <;> cases h2 : loB F g i b (rowD F g i D b) <;> rw [h1] at ih <;> rw [h2] at k <;> simp at ih k ⊢ <;> omega
theorem sm_rnd (ga : GA n n K F g) (D : Nat → Int) : ∀ i, i ≤ n → smI (rndD F g n D i) n + (if rndQ F g n D i = true then 1 else 0) ≤ smI D n
  | 0, _ => by simp [rndD, rndQ]
  | i + 1, hi => by
    have ih := sm_rnd ga D i (by omega)
    have k := sm_row ga (i := i) (by omega) (rndD F g n D i) (rndQ F g n D i) n
    exact Int.le_trans k ih
theorem du_down (ga : GA n n K F g) : ∀ r, (∀ s, s < r → duQ F g n s = true) → smI (duD F g n r) n + (r : Int) ≤ 0
  | 0, _ => by
    have : smI (duD F g n 0) n = 0 := smI_zero fun i _ => rfl
    omega
  | r + 1, h => by
    have ih := du_down ga r fun s hs => h s (by omega)
    have k := sm_rnd ga (duD F g n r) n (Nat.le_refl _)
    rw [if_pos (show rndQ F g n (duD F g n r) n = true from h r (by omega))] at k
    have e : smI (duD F g n (r + 1)) n = smI (rndD F g n (duD F g n r) n) n := rfl
    omega
theorem sm_ge {f : Nat → Int} {L : Int} (hf : ∀ i, i < n → -L ≤ f i) : -(L * (n : Int)) ≤ smI f n := by
  induction n with
  | zero => simp [smI]
  | succ n ih =>
    have h1 := ih fun i hi => hf i (by omega)
    have h2 := hf n (by omega)
    unfold smI
    have e : L * ((n + 1 : Nat) : Int) = L * (n : Int) + L := by rw [Int.natCast_add, Int.mul_add]; simp
    omega
/-- where who costs least there are dues -/
theorem least_dues (ga : GA n n K F g) (hl : ∀ h, GA n n K F h → csK F g n ≤ csK F h n) : ∃ r, r < n ∧ duQ F g n r = false := by
  obtain ⟨N, hN⟩ : ∃ N : Nat, N = (100000 * (n : Int) * (n : Int)).toNat + n + 1 := ⟨_, rfl⟩
  by_cases c : ∀ s, s < N → duQ F g n s = true
  · exfalso
    have h1 := du_down ga N c
    have h2 := sm_ge (n := n) (f := duD F g n N) (L := 100000 * (n : Int)) fun t ht => by
      obtain ⟨k, x, h0, h3, h4⟩ := wk_du ga N t ht
      rw [h4]; exact wlk_ge ga hl k x h3
    have h5 : (0 : Int) ≤ 100000 * (n : Int) * (n : Int) := Int.mul_nonneg (by omega) (by omega)
    generalize 100000 * (n : Int) * (n : Int) = Z at *
    omega
  · obtain ⟨s, hs, e⟩ := not_all c
    have e2 : duQ F g n s = false := by simpa using e
    by_cases d : s < n
    · exact ⟨s, d, e2⟩
    · exact du_endN ga (by omega) e2
/-- .. and only there -/
theorem dues_least (ga : GA n n K F g) (gh : GA n n K F h) {r : Nat} (e : duQ F g n r = false) : csK F g n ≤ csK F h n := fea_least ga gh (fea_of e)
/-- the least is no more than any -/
theorem mn_leN {O : Nat → Option Int} : ∀ {n t : Nat} {c : Int}, t < n → O t = some c → ∀ b, mnO O n = some b → b ≤ c
  | 0, t, c, h, _, b, _ => by omega
  | n + 1, t, c, h, h2, b, h3 => by
    unfold mnO at h3
    by_cases e : t = n
    · subst e
      rw [h2] at h3
      cases h4 : mnO O t with
      | none => rw [h4] at h3; cases h3; exact Int.le_refl _
      | some d => rw [h4] at h3; simp only at h3; split at h3 <;> (cases h3; omega)
    · have ih := mn_leN (O := O) (n := n) (by omega) h2
      cases h4 : mnO O n with
      | none =>
        have := mn_some (O := O) (n := n) (t := t) (by omega) (by rw [h2]; rfl)
        rw [h4] at this; cases this
      | some d =>
        rw [h4] at h3
        have := ih d h4
        cases h5 : O n with
        | none => rw [h5] at h3; cases h3; exact this
        | some x => rw [h5] at h3; simp only at h3; split at h3 <;> (cases h3; omega)
/-- nobody pays less than what is left at least -/
theorem ls_le (gh : GA n n K F h) : ∀ k i, i + k = n → lsL F n k (tkM h i) + csK F h i ≤ csK F h n
  | 0, i, e => by
    have : i = n := by omega
    subst this
    simp [lsL]
  | k + 1, i, e => by
    have hi : i < n := by omega
    have ih := ls_le gh k (i + 1) (by omega)
    have hb := gh.bd i hi
    have hn6 := gh.gp.hi
    obtain ⟨t, ht⟩ : ∃ t : Nat, h i = (t : Int) := ⟨(h i).toNat, by omega⟩
    have ei : n - (k + 1) = i := by omega
    have hbit : (tkM h i).testBit t = false := by
      rw [tkM_had (fun j hj => (gh.bd j (by omega)).1)]
      cases c : hadB h i (t : Int) with
      | false => rfl
      | true =>
        obtain ⟨j, hj, e2⟩ := hadB_t.1 c
        have := gh.one j i (by omega) hi (e2.trans ht.symm)
        omega
    have hO : ofT (F i) (tkM h i) (lsL F n k) t = some (F i t + lsL F n k (tkM h i ||| 2 ^ t)) := by unfold ofT; rw [if_neg (by rw [hbit]; decide)]
    have hs := mn_some (O := ofT (F i) (tkM h i) (lsL F n k)) (n := n) (t := t) (by omega) (by rw [hO]; rfl)
    obtain ⟨b, hb2⟩ := Option.isSome_iff_exists.1 hs
    have hle := mn_leN (O := ofT (F i) (tkM h i) (lsL F n k)) (n := n) (t := t) (by omega) hO b hb2
    have e3 : lsL F n (k + 1) (tkM h i) = b := by
      show (mnO (ofT (F (n - (k + 1))) (tkM h i) (lsL F n k)) n).getD (-1) = b
      rw [ei, hb2]; rfl
    have e4 : tkM h (i + 1) = tkM h i ||| 2 ^ t := by show tkM h i ||| 2 ^ (h i).toNat = _; rw [ht]; rfl
    have e5 : csK F h (i + 1) = csK F h i + F i t := by show csK F h i + F i (h i).toNat = _; rw [ht]; rfl
    rw [e4, e5] at ih
    omega
/-- what BestAssign tells costs least -/
theorem best_le (gh : GA n n K F h) : lsL F n n 0 ≤ csK F h n := by
  have := ls_le gh n 0 (by omega)
  have e : csK F h 0 = 0 := rfl
  have e2 : tkM h 0 = 0 := rfl
  rw [e, e2] at this
  omega
end
end Go.Proofs.Ytjmdghkhapajiaa
