/- From each place that wins the plan meets the wish. -/
import Derived.Test.YtapodfkoknmhdaaDoorQWhStM
import Derived.Test.YtapodfkoknmhdaaDoorQWhPlM
import Derived.Test.YtapodfkoknmhdaaDoorQWhSgI
namespace Go.Proofs.YtapodfkoknmhdaaDoor
theorem spK_mem (N F : Nat → Int) (k : Nat) : spK N F k = -1 ∨ ∃ j, j < k ∧ spK N F k = F j := by
  induction k with
  | zero => exact .inl rfl
  | succ k ih =>
    unfold spK
    split
    · exact .inr ⟨k, by omega, rfl⟩
    · rcases ih with h | ⟨j, hj, e⟩
      · exact .inl h
      · exact .inr ⟨j, by omega, e⟩
theorem spK_num {N F : Nat → Int} (k : Nat) (h : spK N F k ≠ -1) : 0 ≤ N (spK N F k).toNat := by
  induction k with
  | zero => exact absurd rfl h
  | succ k ih =>
    unfold spK at h ⊢
    split
    · rename_i h9; exact h9.1
    · rename_i h9
      rw [if_neg h9] at h
      exact ih h
/-- the least of those that have a number, if one has -/
theorem spK_least {N F : Nat → Int} (k : Nat) (hF : ∀ j, j < k → 0 ≤ F j) {j : Nat} (hj : j < k) (h : 0 ≤ N (F j).toNat) : 0 ≤ spK N F k ∧ 0 ≤ N (spK N F k).toNat ∧ N (spK N F k).toNat ≤ N (F j).toNat := by
  induction k with
  | zero => omega
  | succ k ih =>
    have hk := hF k (by omega)
    unfold spK
    by_cases e : j = k
    · subst e
      by_cases hc : spK N F j < 0 ∨ N (F j).toNat < N (spK N F j).toNat
      · rw [if_pos ⟨h, hc⟩]; exact ⟨hk, h, Int.le_refl _⟩
      · rw [if_neg (fun h9 => hc h9.2)]
        have := spK_num (N := N) (F := F) j (by omega)
        omega
    · have i9 := ih (fun i hi => hF i (by omega)) (by omega)
      split
      · rename_i h9
        refine ⟨hk, h9.1, ?_⟩
        rcases h9.2 with h8 | h8 <;> omega
      · exact i9
section
variable {kn : Nat → Int} {z : Int} {g : Nat → Bool} {K : Nat → Nat} {R : Nat → Nat → Int} {sd : Bool}
theorem lvl_keep {r s i : Nat} (hrs : r ≤ s) (h : 0 ≤ lvl kn z g K R sd r i) : lvl kn z g K R sd s i = lvl kn z g K R sd r i := by
  induction s with
  | zero => have : r = 0 := by omega
            subst this; rfl
  | succ s ih =>
    by_cases e : r = s + 1
    · subst e; rfl
    · have := ih (by omega)
      rw [lvl_stay (by omega), this]
end
section
variable {n : Nat} {f : Nat → ByteArray} {rn : Nat} {re : Nat → ByteArray} {an : Nat} {av : Nat → ByteArray} {g : Nat → Bool} {K : Nat → Nat} {R : Nat → Nat → Int} {pl th : Nat → Int}
/-- where the plan tells a place, that one comes next -/
theorem plan_has (hpl : ∀ i, i < n → pl i = stF n (knF f rn re an av) rn g K R i) {i : Nat} (hi : i < n) : pl i = -1 ∨ ∃ j, j < K i ∧ pl i = R i j := by
  rw [hpl i hi]
  unfold stF
  split
  · exact spK_mem _ _ _
  · exact .inl rfl
theorem nx_ok (hpl : ∀ i, i < n → pl i = stF n (knF f rn re an av) rn g K R i) {i : Nat} (hi : i < n) (t : Int) : (nxV g K R pl i t).2 = true := by
  unfold nxV
  split
  · rfl
  · split
    · rfl
    · rcases plan_has hpl hi with h | ⟨j, hj, e⟩
      · simp [h]
      · have : hsB (R i) (K i) (pl i) = true := by unfold hsB; exact decide_eq_true ⟨j, hj, e.symm⟩
        simp [this]
theorem nx_has (hpl : ∀ i, i < n → pl i = stF n (knF f rn re an av) rn g K R i) {i : Nat} (hi : i < n) {t : Int} (hx : (nxV g K R pl i t).1 ≠ -1) : ∃ j, j < K i ∧ (nxV g K R pl i t).1 = R i j := by
  unfold nxV at hx ⊢
  by_cases h0 : K i = 0
  · rw [if_pos h0] at hx; exact absurd rfl hx
  · rw [if_neg h0] at hx ⊢
    by_cases h1 : g i = false
    · rw [if_pos h1]
      have h3 : 0 ≤ t % (K i : Int) := Int.emod_nonneg _ (by omega)
      have h4 : t % (K i : Int) < (K i : Int) := Int.emod_lt_of_pos _ (by omega)
      exact ⟨(t % (K i : Int)).toNat, by omega, rfl⟩
    · rw [if_neg h1] at hx ⊢
      rcases plan_has hpl hi with h | h
      · exact absurd h hx
      · exact h
/-- steps that may be gone -/
def Chn (n : Nat) (K : Nat → Nat) (R : Nat → Nat → Int) : Nat → List Int → Prop
  | _, [] => True
  | a, x :: l => (0 ≤ x ∧ x < (n : Int)) ∧ hsB (R a) (K a) x = true ∧ Chn n K R x.toNat l
theorem run_told (hR : OnB n K R) (hpl : ∀ i, i < n → pl i = stF n (knF f rn re an av) rn g K R i) : ∀ q i at', at' < n → ∃ l, plR g K R pl th q i at' = some l ∧ l.length ≤ q ∧ Chn n K R at' l := by
  intro q
  induction q with
  | zero => intro i at' _; exact ⟨[], rfl, Nat.le_refl _, trivial⟩
  | succ q ih =>
    intro i at' ha
    have h2 := nx_ok hpl ha (th i)
    unfold plR
    rw [if_neg (by rw [h2]; simp)]
    by_cases hx : (nxV g K R pl at' (th i)).1 = -1
    · rw [if_pos hx]; exact ⟨[], rfl, Nat.zero_le _, trivial⟩
    · rw [if_neg hx]
      obtain ⟨j, hj, e⟩ := nx_has hpl ha hx
      have hb := hR at' ha j hj
      obtain ⟨l, e1, h3, h4⟩ := ih (i + 1) (nxV g K R pl at' (th i)).1.toNat (by rw [e]; omega)
      rw [e1]
      exact ⟨_, rfl, Nat.succ_le_succ h3, ⟨by rw [e]; exact hb, by unfold hsB; exact decide_eq_true ⟨j, hj, e.symm⟩, h4⟩⟩
/-- whether a path meets the wish -/
def mtL (f : Nat → ByteArray) (rn : Nat) (re : Nat → ByteArray) (an : Nat) (av : Nat → ByteArray) : List Int → Bool
  | [] => decide (rn = 0)
  | x :: l => if inS av (f x.toNat) an = true then false else if inS re (f x.toNat) rn = true then true else mtL f rn re an av l
theorem kn_zero {i : Nat} (h : knF f rn re an av i = 0) : inS av (f i) an = false ∧ inS re (f i) rn = false := by
  unfold knF at h
  cases h1 : inS av (f i) an with
  | true => rw [h1, if_pos rfl] at h; cases h
  | false =>
    cases h2 : inS re (f i) rn with
    | true => rw [h1, h2, if_neg (by simp), if_pos rfl] at h; cases h
    | false => exact ⟨rfl, rfl⟩
theorem kn_one {i : Nat} (h : knF f rn re an av i = 1) : inS av (f i) an = false ∧ inS re (f i) rn = true := by
  unfold knF at h
  cases h1 : inS av (f i) an with
  | true => rw [h1, if_pos rfl] at h; cases h
  | false =>
    cases h2 : inS re (f i) rn with
    | true => exact ⟨rfl, rfl⟩
    | false => rw [h1, h2, if_neg (by simp), if_neg (by simp)] at h; cases h
/-- without an aim: whoever is safe stays so -/
theorem safe_next (hR : OnB n K R) (hr : rn = 0) (hpl : ∀ i, i < n → pl i = stF n (knF f rn re an av) rn g K R i) {i : Nat} (hi : i < n) (hw : 0 ≤ rkV n (knF f rn re an av) rn g K R i) {t : Int} (hx : (nxV g K R pl i t).1 ≠ -1) : knF f rn re an av i = 0 ∧ 0 ≤ rkV n (knF f rn re an av) rn g K R (nxV g K R pl i t).1.toNat := by
  have hout : inL (knF f rn re an av) 2 g K R false n i = false := by
    unfold inL
    refine decide_eq_false fun h => ?_
    unfold rkV at hw
    rw [if_pos hr, if_pos h] at hw
    omega
  have hk0 : knF f rn re an av i = 0 := by
    rcases kn_two f re an av hr i with h | h
    · exact h
    · have := lvl_of_aim (kn := knF f rn re an av) (z := 2) (g := g) (K := K) (R := R) (sd := false) h n
      unfold inL at hout
      rw [this] at hout
      simp at hout
  refine ⟨hk0, ?_⟩
  unfold nxV at hx ⊢
  by_cases h0 : K i = 0
  · rw [if_pos h0] at hx; exact absurd rfl hx
  · rw [if_neg h0] at hx ⊢
    by_cases h1 : g i = false
    · rw [if_pos h1]
      have h3 : 0 ≤ t % (K i : Int) := Int.emod_nonneg _ (by omega)
      have h4 : t % (K i : Int) < (K i : Int) := Int.emod_lt_of_pos _ (by omega)
      have hc := lvl_closed hR hi hout
      rw [hk0] at hc
      unfold stp at hc
      rw [h1, if_pos (show (false == false) = true from rfl)] at hc
      have hc2 : smB (inL (knF f rn re an av) 2 g K R false n) (R i) (K i) = false := by simpa using hc
      unfold rkV
      rw [if_pos hr]
      split
      · rename_i h9
        exfalso
        have : smB (inL (knF f rn re an av) 2 g K R false n) (R i) (K i) = true := smB_iff.2 ⟨(t % (K i : Int)).toNat, by omega, decide_eq_true h9⟩
        rw [hc2] at this
        cases this
      · exact Int.le_refl _
    · rw [if_neg h1] at hx ⊢
      have e := hpl i hi
      unfold stF at e
      by_cases hc : g i = true ∧ 0 ≤ rkV n (knF f rn re an av) rn g K R i ∧ ¬ (0 < rn ∧ rkV n (knF f rn re an av) rn g K R i = 0)
      · rw [if_pos hc] at e
        show 0 ≤ rkV n (knF f rn re an av) rn g K R (pl i).toNat
        rw [e]
        exact spK_num _ (by rw [← e]; exact hx)
      · rw [if_neg hc] at e
        exact absurd e hx
/-- with an aim: whoever wins and is not there comes nearer -/
theorem near_next (hR : OnB n K R) (hr : rn ≠ 0) (hpl : ∀ i, i < n → pl i = stF n (knF f rn re an av) rn g K R i) {i : Nat} (hi : i < n) (hw : 0 < rkV n (knF f rn re an av) rn g K R i) {t : Int} :
    knF f rn re an av i = 0 ∧ (nxV g K R pl i t).1 ≠ -1 ∧ 0 ≤ rkV n (knF f rn re an av) rn g K R (nxV g K R pl i t).1.toNat ∧ rkV n (knF f rn re an av) rn g K R (nxV g K R pl i t).1.toNat < rkV n (knF f rn re an av) rn g K R i := by
  have eR : ∀ j, rkV n (knF f rn re an av) rn g K R j = lvl (knF f rn re an av) 1 g K R true n j := fun j => by unfold rkV; rw [if_neg hr]
  have hw' := hw
  rw [eR] at hw'
  obtain ⟨hk0, s, hs, es, hst⟩ := lvl_step hw'
  have hnear : ∀ j, j < K i → inL (knF f rn re an av) 1 g K R true s (R i j).toNat = true → 0 ≤ rkV n (knF f rn re an av) rn g K R (R i j).toNat ∧ rkV n (knF f rn re an av) rn g K R (R i j).toNat ≤ (s : Int) := fun j hj h => by
    have h0 : 0 ≤ lvl (knF f rn re an av) 1 g K R true s (R i j).toNat := of_decide_eq_true h
    rw [eR, lvl_keep (by omega) h0]
    exact ⟨h0, lvl_hi _ _⟩
  rw [eR i, es]
  refine ⟨hk0, ?_⟩
  unfold stp at hst
  by_cases h1 : g i = false
  · rw [h1, if_neg (by simp)] at hst
    simp only [Bool.and_eq_true, decide_eq_true_eq] at hst
    have h3 : 0 ≤ t % (K i : Int) := Int.emod_nonneg _ (by omega)
    have h4 : t % (K i : Int) < (K i : Int) := Int.emod_lt_of_pos _ (by omega)
    have h5 := hnear (t % (K i : Int)).toNat (by omega) (alB_iff.1 hst.2 _ (by omega))
    have h6 := hR i hi (t % (K i : Int)).toNat (by omega)
    have e9 : nxV g K R pl i t = (R i (t % (K i : Int)).toNat, true) := by unfold nxV; rw [if_neg hst.1, if_pos h1]
    rw [e9]
    refine ⟨?_, h5.1, ?_⟩
    · show R i (t % (K i : Int)).toNat ≠ -1
      omega
    · show rkV n (knF f rn re an av) rn g K R (R i (t % (K i : Int)).toNat).toNat < _
      omega
  · have hg : g i = true := by cases e : g i with
      | true => rfl
      | false => exact absurd e h1
    rw [hg, if_pos (show (true == true) = true from rfl)] at hst
    obtain ⟨j, hj, hjl⟩ := smB_iff.1 hst
    have hK0 : K i ≠ 0 := by omega
    have h5 := hnear j hj hjl
    have e := hpl i hi
    unfold stF at e
    rw [if_pos ⟨hg, by omega, fun h => by omega⟩] at e
    have h6 := spK_least (N := rkV n (knF f rn re an av) rn g K R) (F := R i) (K i) (fun j hj => (hR i hi j hj).1) hj h5.1
    have e9 : (nxV g K R pl i t).1 = pl i := by unfold nxV; rw [if_neg hK0, if_neg h1]
    rw [e9, e]
    exact ⟨by omega, h6.2.1, by omega⟩
theorem run_meets (hR : OnB n K R) (hpl : ∀ i, i < n → pl i = stF n (knF f rn re an av) rn g K R i) : ∀ (q i at' : Nat) (l : List Int), at' < n → 0 ≤ rkV n (knF f rn re an av) rn g K R at' → (rn ≠ 0 → rkV n (knF f rn re an av) rn g K R at' ≤ (q : Int)) → plR g K R pl th q i at' = some l → mtL f rn re an av ((at' : Int) :: l) = true := by
  intro q
  induction q with
  | zero =>
    intro i at' l ha hw hq hl
    have el : l = [] := by unfold plR at hl; exact (Option.some.inj hl).symm
    subst el
    unfold mtL
    rw [Int.toNat_natCast]
    by_cases hr : rn = 0
    · have hk0 : inS av (f at') an = false := by
        have hout : inL (knF f rn re an av) 2 g K R false n at' = false := by
          unfold inL
          refine decide_eq_false fun h => ?_
          unfold rkV at hw
          rw [if_pos hr, if_pos h] at hw
          omega
        rcases kn_two f re an av hr at' with h | h
        · exact (kn_zero h).1
        · have := lvl_of_aim (kn := knF f rn re an av) (z := 2) (g := g) (K := K) (R := R) (sd := false) h n
          unfold inL at hout
          rw [this] at hout
          simp at hout
      rw [hk0, if_neg (by simp)]
      split
      · rfl
      · unfold mtL; exact decide_eq_true hr
    · have h0 : rkV n (knF f rn re an av) rn g K R at' = 0 := by have := hq hr; omega
      have : lvl (knF f rn re an av) 1 g K R true n at' = 0 := by unfold rkV at h0; rw [if_neg hr] at h0; exact h0
      have hk := kn_one (lvl_aim this)
      rw [hk.1, hk.2, if_neg (by simp), if_pos rfl]
  | succ q ih =>
    intro i at' l ha hw hq hl
    by_cases hr : rn = 0
    · have hin : inS av (f at') an = false := by
        have hout : inL (knF f rn re an av) 2 g K R false n at' = false := by
          unfold inL
          refine decide_eq_false fun h => ?_
          unfold rkV at hw
          rw [if_pos hr, if_pos h] at hw
          omega
        rcases kn_two f re an av hr at' with h | h
        · exact (kn_zero h).1
        · have := lvl_of_aim (kn := knF f rn re an av) (z := 2) (g := g) (K := K) (R := R) (sd := false) h n
          unfold inL at hout
          rw [this] at hout
          simp at hout
      unfold plR at hl
      rw [if_neg (by rw [nx_ok hpl ha (th i)]; simp)] at hl
      unfold mtL
      rw [Int.toNat_natCast, hin, if_neg (by simp)]
      split
      · rfl
      · by_cases hx : (nxV g K R pl at' (th i)).1 = -1
        · rw [if_pos hx] at hl
          have el := Option.some.inj hl
          subst el
          unfold mtL; exact decide_eq_true hr
        · rw [if_neg hx] at hl
          obtain ⟨l2, e2, rfl⟩ := Option.map_eq_some_iff.1 hl
          obtain ⟨j, hj, e⟩ := nx_has hpl ha hx
          have hb := hR at' ha j hj
          have h9 := ih (i + 1) _ l2 (by rw [e]; omega) (safe_next hR hr hpl ha hw hx).2 (fun h => absurd hr h) e2
          rw [show (((nxV g K R pl at' (th i)).1.toNat : Nat) : Int) = (nxV g K R pl at' (th i)).1 by rw [e]; omega] at h9
          exact h9
    · by_cases h0 : rkV n (knF f rn re an av) rn g K R at' = 0
      · have : lvl (knF f rn re an av) 1 g K R true n at' = 0 := by unfold rkV at h0; rw [if_neg hr] at h0; exact h0
        have hk := kn_one (lvl_aim this)
        unfold mtL
        rw [Int.toNat_natCast, hk.1, hk.2, if_neg (by simp), if_pos rfl]
      · obtain ⟨hk0, hx, h5, h6⟩ := near_next (t := th i) hR hr hpl ha (by omega)
        have hk := kn_zero hk0
        unfold plR at hl
        rw [if_neg (by rw [nx_ok hpl ha (th i)]; simp), if_neg hx] at hl
        obtain ⟨l2, e2, rfl⟩ := Option.map_eq_some_iff.1 hl
        obtain ⟨j, hj, e⟩ := nx_has hpl ha hx
        have hb := hR at' ha j hj
        have h9 := ih (i + 1) _ l2 (by rw [e]; omega) h5 (fun _ => by have := hq hr; omega) e2
        rw [show (((nxV g K R pl at' (th i)).1.toNat : Nat) : Int) = (nxV g K R pl at' (th i)).1 by rw [e]; omega] at h9
        unfold mtL
        rw [Int.toNat_natCast, hk.1, hk.2, if_neg (by simp), if_neg (by simp)]
        exact h9
theorem chn_st {a : Nat} {l : List Int} (ha : a < n) (h : Chn n K R a l) : ∀ i, i < ((a : Int) :: l).length → stOk n K R (gl ((a : Int) :: l)) i = true := by
  induction l generalizing a with
  | nil =>
    intro i hi
    have : i = 0 := by simpa using hi
    subst this
    unfold stOk
    simp [gl]; omega
  | cons x l ih =>
    obtain ⟨hx, hs, hc⟩ := h
    intro i hi
    match i with
    | 0 =>
      unfold stOk
      simp [gl]; omega
    | 1 =>
      unfold stOk
      simp [gl, hx.1, hx.2, hs]
    | i + 2 =>
      have := ih (a := x.toNat) (by omega) hc (i + 1) (by simpa using hi)
      rw [show ((x.toNat : Nat) : Int) = x by omega] at this
      unfold stOk at this ⊢
      simpa [gl] using this
theorem mtR_mtL (l : List Int) (P : Nat → Int) : ∀ i, (∀ j, j < l.length → P (i + j) = gl l j) → mtR f rn re an av P l.length i = mtL f rn re an av l := by
  induction l with
  | nil => intro i _; rfl
  | cons x l ih =>
    intro i h
    have h0 : P i = x := by have := h 0 (by simp); simpa [gl] using this
    show mtR f rn re an av P (l.length + 1) i = _
    unfold mtR mtL
    rw [h0, ih (i + 1) fun j hj => by
      have := h (j + 1) (by simpa using hj)
      rw [show i + 1 + j = i + (j + 1) by omega, this]
      simp [gl]]
/-- the plan from a place that wins: it is told, and meets the wish -/
theorem win_meets {m p : Nat} {L : Nat} {a : Nat} (hB : bwB n f m p K R rn re an av = true) (hpl : ∀ i, i < n → pl i = stF n (knF f rn re an av) rn g K R i) (hth : ∀ i, i < L → 0 ≤ th i) (hL : 14 ≤ L) (hL2 : L ≤ 30) (ha : a < n) (hw : 0 ≤ rkV n (knF f rn re an av) rn g K R a) :
    ∃ l : List Int, plV n f m g p K R n pl (a : Int) th L = some l ∧ l.length ≤ 31 ∧ mtV n f m p K R rn re an av (gl l) l.length = (true, true) := by
  unfold bwB at hB
  simp only [Bool.and_eq_true] at hB
  have hG := hB.1
  obtain ⟨g1, g2, _, _, _⟩ := gbB_parts hG
  have hR : OnB n K R := fun i hi j hj => gbB_row hG (by omega) hj
  obtain ⟨l, e1, h1, h2⟩ := run_told (th := th) (g := g) (pl := pl) hR hpl L 0 a ha
  have hbd := rkV_bd (kn := knF f rn re an av) (rn := rn) (g := g) hR g2 ha
  have h3 := run_meets (th := th) hR hpl L 0 a l ha hw (fun _ => by omega) e1
  refine ⟨(a : Int) :: l, ?_, by simp; omega, ?_⟩
  · unfold plV
    rw [if_pos ⟨hG, rfl, by omega, by omega, hL2, hth⟩, Int.toNat_natCast, e1]
    rfl
  · unfold mtV
    rw [if_pos ⟨hG, by simp [hB.2.1, hB.2.2], by simp, by simp; omega, ptOk_mk (chn_st ha h2)⟩, mtR_mtL ((a : Int) :: l) _ 0 (fun j _ => by rw [Nat.zero_add]), h3]
end
end Go.Proofs.YtapodfkoknmhdaaDoor
