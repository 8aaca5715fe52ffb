/- Numbers alone: the first free time can be booked, one ahead of it cannot. -/
import Derived.Test.YtdpblholoogikaaBkFfM
import Derived.Test.YtdpblholoogikaaBlI
namespace Go.Proofs.Ytdpblholoogikaa
/-- good bookings stand one behind the other, wherever they are -/
theorem bs_ord {F : Nat → Int} {n : Nat} (h : bsK F n = true) (i : Nat) : ∀ d, i + d + 1 < n → F (i * 4) < F ((i + d + 1) * 4) ∨ F (i * 4) = F ((i + d + 1) * 4) ∧ F (i * 4 + 2) ≤ F ((i + d + 1) * 4 + 1)
  | 0, hd => bhB_t ((bsK_t h (i + 1) hd).2 (by omega))
  | d + 1, hd => by
    have ih := bs_ord h i d (by omega)
    have h1 := bhB_t ((bsK_t h (i + (d + 1) + 1) hd).2 (by omega))
    have h2 := bkB_t (bsK_t h (i + d + 1) (by omega)).1
    rw [show i + (d + 1) + 1 - 1 = i + d + 1 by omega] at h1
    omega
theorem bs_ord2 {F : Nat → Int} {n : Nat} (h : bsK F n = true) {i j : Nat} (hi : i < j) (hj : j < n) : F (i * 4) < F (j * 4) ∨ F (i * 4) = F (j * 4) ∧ F (i * 4 + 2) ≤ F (j * 4 + 1) := by
  have := bs_ord h i (j - i - 1) (by omega)
  rwa [show i + (j - i - 1) + 1 = j by omega] at this
theorem ff_free {F : Nat → Int} {n : Nat} (h : bsK F n = true) (lane from_ long : Int) : ∀ k, k ≤ n → ∀ j, j < k → F (j * 4) = lane → F (j * 4 + 2) ≤ ffK F lane from_ long k ∨ ffK F lane from_ long k + long ≤ F (j * 4 + 1)
  | 0, _, j, hj, _ => absurd hj (Nat.not_lt_zero _)
  | k + 1, hk, j, hj, el => by
    have hb := bkB_t (bsK_t h k (by omega)).1
    unfold ffK ffS
    by_cases e : j = k
    · subst e
      split <;> omega
    · have ih := ff_free h lane from_ long k (by omega) j (by omega) el
      have ho := bs_ord2 h (show j < k by omega) (by omega)
      split <;> omega
theorem ff_src (F : Nat → Int) (lane from_ long : Int) : ∀ k, from_ < ffK F lane from_ long k → ∃ j, j < k ∧ F (j * 4) = lane ∧ ffK F lane from_ long k = F (j * 4 + 2)
  | 0, h => absurd h (Int.lt_irrefl _)
  | k + 1, h => by
    unfold ffK ffS at h ⊢
    split
    · rename_i c
      exact ⟨k, by omega, c.1, rfl⟩
    · rename_i c
      rw [if_neg c] at h
      obtain ⟨j, h1, h2, h3⟩ := ff_src F lane from_ long k h
      exact ⟨j, by omega, h2, h3⟩
section
variable (F : Nat → Int) (K : Nat) (a f t u : Int)
theorem in0 : insF F K a f t u (K * 4) = a := by unfold insF; rw [if_neg (by omega), if_pos rfl]
theorem in1 : insF F K a f t u (K * 4 + 1) = f := by unfold insF; rw [if_neg (by omega), if_neg (by omega), if_pos rfl]
theorem in2 : insF F K a f t u (K * 4 + 2) = t := by unfold insF; rw [if_neg (by omega), if_neg (by omega), if_neg (by omega), if_pos rfl]
theorem inh {k : Nat} (r : Nat) (h : K ≤ k) : insF F K a f t u ((k + 1) * 4 + r) = F (k * 4 + r) := by
  rw [show (k + 1) * 4 + r = k * 4 + r + 4 by omega, insF_hi _ _ _ _ _ _ _ (by omega)]
theorem inh0 {k : Nat} (h : K ≤ k) : insF F K a f t u ((k + 1) * 4) = F (k * 4) := inh F K a f t u 0 h
theorem inl_ {k : Nat} {r : Nat} (hr : r < 4) (h : k < K) : insF F K a f t u (k * 4 + r) = F (k * 4 + r) := insF_lo _ _ _ _ _ _ (by omega)
theorem inl0 {k : Nat} (h : k < K) : insF F K a f t u (k * 4) = F (k * 4) := insF_lo _ _ _ _ _ _ (by omega)
end
/-- one more where nothing stands keeps bookings good -/
theorem ins_good {F : Nat → Int} {n : Nat} {a f t u : Int} (hn : n < 40) (h : bsK F n = true) (hb : bkB a f t u = true) (hf : ∀ j, j < n → F (j * 4) = a → F (j * 4 + 2) ≤ f ∨ t ≤ F (j * 4 + 1)) : bkR F n a f t u = true := by
  have hle := plB_le F a f n
  have hlt := plB_lt F a f n
  have hat := plB_at F a f n
  unfold bkR bsB
  generalize plB F a f n = K at *
  rw [decide_eq_true (show n ≤ 40 by omega), decide_eq_true (show n + 1 ≤ 40 by omega), h]
  simp only [Bool.true_and]
  refine bsK_of fun k hk => ⟨?_, fun h0 => ?_⟩
  · by_cases c : k < K
    · have := (bsK_t h k (by omega)).1
      unfold bkK at this ⊢
      rw [inl0 _ _ _ _ _ _ c, inl_ _ _ _ _ _ _ (by omega) c, inl_ _ _ _ _ _ _ (by omega) c, inl_ _ _ _ _ _ _ (by omega) c]; exact this
    · by_cases c2 : k = K
      · subst c2; rw [insF_at]; exact hb
      · obtain ⟨p, rfl⟩ : ∃ p, k = p + 1 := ⟨k - 1, by omega⟩
        have := (bsK_t h p (by omega)).1
        unfold bkK at this ⊢
        rw [inh0 _ _ _ _ _ _ (by omega), inh _ _ _ _ _ _ _ (by omega), inh _ _ _ _ _ _ _ (by omega), inh _ _ _ _ _ _ _ (by omega)]; exact this
  · obtain ⟨p, rfl⟩ : ∃ p, k = p + 1 := ⟨k - 1, by omega⟩
    have hb := bkB_t hb
    unfold bhK
    rw [Nat.add_sub_cancel]
    by_cases c : p + 1 < K
    · have := (bsK_t h (p + 1) (by omega)).2 (by omega)
      unfold bhK at this
      rw [Nat.add_sub_cancel] at this
      rw [inl0 _ _ _ _ _ _ (show p < K by omega), inl_ _ _ _ _ _ _ (by omega) (show p < K by omega), inl0 _ _ _ _ _ _ c, inl_ _ _ _ _ _ _ (by omega) c]; exact this
    · by_cases c2 : p + 1 = K
      · subst c2
        rw [inl0 _ _ _ _ _ _ (show p < p + 1 by omega), inl_ _ _ _ _ _ _ (by omega) (show p < p + 1 by omega), in0, in1]
        have h1 := of_decide_eq_true (hlt p (by omega))
        have h2 := hf p (by omega)
        have h3 := bkB_t (bsK_t h p (by omega)).1
        refine decide_eq_true ?_
        omega
      · by_cases c3 : p = K
        · subst c3
          rw [in0, in2, inh0 _ _ _ _ _ _ (Nat.le_refl _), inh _ _ _ _ _ _ _ (Nat.le_refl _)]
          have h1 := of_decide_eq_false (hat (by omega))
          have h2 := hf p (by omega)
          have h3 := bkB_t (bsK_t h p (by omega)).1
          refine decide_eq_true ?_
          omega
        · obtain ⟨q, rfl⟩ : ∃ q, p = q + 1 := ⟨p - 1, by omega⟩
          have := (bsK_t h (q + 1) (by omega)).2 (by omega)
          unfold bhK at this
          rw [Nat.add_sub_cancel] at this
          rw [inh0 _ _ _ _ _ _ (show K ≤ q by omega), inh _ _ _ _ _ _ _ (show K ≤ q by omega), inh0 _ _ _ _ _ _ (show K ≤ q + 1 by omega), inh _ _ _ _ _ _ _ (show K ≤ q + 1 by omega)]; exact this
/-- .. and where something stands it does not -/
theorem ins_bad {F : Nat → Int} {n j : Nat} {a f t u : Int} (hj : j < n) (e : F (j * 4) = a) (h1 : f < F (j * 4 + 2)) (h2 : F (j * 4 + 1) < t) : bkR F n a f t u = false := by
  have hle := plB_le F a f n
  cases hr : bkR F n a f t u with
  | false => rfl
  | true =>
    unfold bkR at hr
    generalize plB F a f n = K at *
    simp at hr
    have hb := (bsB_t hr.2).2
    by_cases c : j < K
    · have := bs_ord2 hb c (show K < n + 1 by omega)
      rw [inl0 _ _ _ _ _ _ c, inl_ _ _ _ _ _ _ (by omega) c, in0, in1] at this
      omega
    · have := bs_ord2 hb (show K < j + 1 by omega) (show j + 1 < n + 1 by omega)
      rw [in0, in2, inh0 _ _ _ _ _ _ (by omega), inh _ _ _ _ _ _ _ (by omega)] at this
      omega
/-- the first free time can be booked -/
theorem ff_can {F : Nat → Int} {n : Nat} {lane from_ long : Int} (hn : n < 40) (h : ffQ n F lane from_ long = true) : bkR F n lane (ffV n F lane from_ long) (ffV n F lane from_ long + long) 0 = true := by
  have hv : ffV n F lane from_ long = ffK F lane from_ long n := if_pos h
  rw [hv]
  unfold ffQ at h
  simp only [Bool.and_eq_true, decide_eq_true_eq] at h
  obtain ⟨e, q0, q1, q2⟩ := ffO_t h.1
  have hb := (bsB_t e).2
  have hi := ffK_in (lane := lane) (long := long) hb q1 n (Nat.le_refl _)
  exact ins_good hn hb (decide_eq_true (by omega)) fun j hj el => ff_free hb lane from_ long n (Nat.le_refl _) j hj el
/-- .. and one ahead of it cannot -/
theorem ff_cannot {F : Nat → Int} {n : Nat} {lane from_ long : Int} (h : ffQ n F lane from_ long = true) (hg : from_ < ffV n F lane from_ long) : bkR F n lane (ffV n F lane from_ long - 1) (ffV n F lane from_ long - 1 + long) 0 = false := by
  have hv : ffV n F lane from_ long = ffK F lane from_ long n := if_pos h
  rw [hv] at hg ⊢
  unfold ffQ at h
  simp only [Bool.and_eq_true, decide_eq_true_eq] at h
  obtain ⟨e, q0, q1, q2⟩ := ffO_t h.1
  obtain ⟨j, hj, el, et⟩ := ff_src F lane from_ long n hg
  have hk := bkB_t (bsK_t (bsB_t e).2 j hj).1
  exact ins_bad hj el (by omega) (by omega)
end Go.Proofs.Ytdpblholoogikaa
