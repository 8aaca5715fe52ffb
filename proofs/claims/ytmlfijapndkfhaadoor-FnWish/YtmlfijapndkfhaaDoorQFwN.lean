/- A wish that can be written is read back as it: names, word by word (FnWish). -/
import Derived.Test.YtmlfijapndkfhaaDoorQFwM
import Derived.Test.YtmlfijapndkfhaaDoorQReSp
import Derived.Test.YtmlfijapndkfhaaDoorQWhIn
namespace Go.Proofs.YtmlfijapndkfhaaDoor
open Go.RowKit
theorem oddR_no {f : Nat → Int} {n : Nat} : ∀ (q i r : Nat), n ≤ i + q → (oddR f n q i r).1 < 0 → ∀ j, i ≤ j → j < n → f j ≠ 32
  | 0, i, r, hq, _, j, h1, h2 => by omega
  | q + 1, i, r, hq, h, j, h1, h2 => by
    have hi : i < n := by omega
    unfold oddR at h
    rw [if_pos hi] at h
    cases ho : odB f n i with
    | true => rw [ho, if_pos rfl] at h; simp only at h; omega
    | false =>
      rw [ho, if_neg (by simp)] at h
      have hp := odB_pos ho
      by_cases hj : j < i + rnK f n i
      · by_cases h3 : rnK f n i = 1
        · have : j = i := by omega
          subst this
          unfold odB at ho
          rw [h3] at ho
          have hl : letB (f j) = true := by simpa using ho
          intro e
          rw [e] at hl
          simp [letB] at hl
        · have := rnK_at (by omega) rfl j h1 hj
          omega
      · exact oddR_no q _ _ (by omega) h j (by omega) h2
theorem name_tok {t : ByteArray} (h : nameB (bt t) t.size = true) : 0 < t.size ∧ ∀ j, j < t.size → bt t j ≠ 32 := by
  unfold nameB at h
  simp only [Bool.and_eq_true, decide_eq_true_eq] at h
  obtain ⟨h1, h2, _⟩ := h
  refine ⟨?_, fun j hj => oddR_no _ 0 0 (by omega) h1 j (Nat.zero_le _) hj⟩
  by_cases c : 0 < t.size
  · exact c
  · rw [oddU_end c] at h2
    simp at h2
theorem namesB_at {F : Nat → ByteArray} {n k : Nat} (h : namesB F n = true) (hk : k < n) : nameB (bt (F k)) (F k).size = true ∧ inS F (F k) k = false := by
  have h1 : namesB F (k + 1) = true := by
    cases c : namesB F (k + 1) with
    | true => rfl
    | false => rw [namesB_no (by omega) c] at h; cases h
  unfold namesB at h1
  simp only [Bool.and_eq_true, Bool.not_eq_true'] at h1
  exact h1.2
theorem inS_range {F : Nat → ByteArray} {t : ByteArray} {k : Nat} (h : inS F t k = false) : inS (gS ((List.range k).map F)) t k = false := by
  cases c : inS (gS ((List.range k).map F)) t k with
  | false => rfl
  | true =>
    obtain ⟨i, hi, e⟩ := inS_iff.1 c
    have : inS F t k = true := inS_iff.2 ⟨i, hi, by
      rw [← e]
      unfold gS
      rw [getElem!_pos _ i (by simpa using hi)]
      simp⟩
    rw [h] at this
    cases this
theorem name_step {F : Nat → ByteArray} {n k : Nat} {s : WS} (hn : namesB F n = true) (hk : k < n) (h6 : n ≤ 6) (hw : isW (F k) = false) (hp : s.p ≠ 0) (hc : s.cur = (List.range k).map F) : wsT (0, F k) s = .ok (addW s (F k)) := by
  obtain ⟨h1, h2⟩ := namesB_at hn hk
  unfold nameB at h1
  simp only [Bool.and_eq_true, decide_eq_true_eq] at h1
  obtain ⟨h3, h4, h5⟩ := h1
  have hm : s.many = k := by unfold WS.many; rw [if_neg hp, hc]; simp
  refine wsT_7 h3 (by rw [hw]; simp) hp (by rw [hm]; omega) ?_
  rw [hc, List.length_map, List.length_range, inS_range h2]
  simp
theorem wsF_names {F : Nat → ByteArray} {n : Nat} (hn : namesB F n = true) (h6 : n ≤ 6) (hw : ∀ i, i < n → isW (F i) = false) (st : Nat → WS) (hp : ∀ k, (st k).p ≠ 0) (hc : ∀ k, (st k).cur = (List.range k).map F) (ha : ∀ k, addW (st k) (F k) = st (k + 1)) (rest : List ByteArray) :
    ∀ d k, k + d = n → wsF ((List.range' k d).map F ++ rest) (st k) = wsF rest (st n)
  | 0, k, h => by
    have : k = n := by omega
    subst this
    rfl
  | d + 1, k, h => by
    rw [List.range'_succ, List.map_cons, List.cons_append]
    have hs := name_step hn (by omega) h6 (hw k (by omega)) (hp k) (hc k)
    show (match wsT (0, F k) (st k) with | .error _ => none | .ok s' => wsF _ s') = _
    rw [hs, ha]
    exact wsF_names hn h6 hw st hp hc ha rest d (k + 1) (by omega)
theorem oR : (oddU (bt wdR) wdR.size 0 0).1 < 0 := by decide +kernel
theorem oA : (oddU (bt wdA) wdA.size 0 0).1 < 0 := by decide +kernel
theorem word_R : wsT (0, wdR) ⟨0, [], []⟩ = .ok ⟨1, [], []⟩ := by
  rw [wsT_3 oR isW_R (by rw [nx_R]; decide), nx_R]
theorem word_A (s : WS) (h : s.p ≤ 1) (hm : s.many ≠ 0) : wsT (0, wdA) s = .ok { s with p := 2 } := by
  rw [wsT_3 oA isW_A (by rw [nx_A]; omega), nx_A]
theorem wsF_parts {re av : Nat → ByteArray} {rn an : Nat} (h1 : namB re rn = true) (h2 : namB av an = true) (w1 : ∀ i, i < rn → isW (re i) = false) (w2 : ∀ i, i < an → isW (av i) = false) :
    ∃ p, wsF (prtL wdR re rn ++ prtL wdA av an) ⟨0, [], []⟩ = some ⟨p, (List.range rn).map re, (List.range an).map av⟩ := by
  unfold namB at h1 h2
  simp only [Bool.and_eq_true, decide_eq_true_eq] at h1 h2
  have hA : ∀ (s : WS), s.p ≤ 1 → s.many ≠ 0 → s.A = [] → ∃ p, wsF (prtL wdA av an) s = some ⟨p, s.R, (List.range an).map av⟩ := fun s hp hm ha => by
    obtain ⟨p, R, A⟩ := s
    simp only at ha hp
    subst ha
    unfold prtL
    by_cases c : an = 0
    · subst c
      refine ⟨p, ?_⟩
      rw [if_pos rfl]
      unfold wsF
      rw [if_neg hm]
      rfl
    · rw [if_neg c]
      refine ⟨2, ?_⟩
      show (match wsT (0, wdA) ⟨p, R, []⟩ with | .error _ => none | .ok s' => wsF _ s') = _
      rw [word_A _ hp hm]
      have := wsF_names h2.2 h2.1 w2 (fun k => ⟨2, R, (List.range k).map av⟩) (fun k => by simp) (fun k => rfl) (fun k => by simp [addW, List.range_succ]) [] an 0 (by omega)
      rw [List.append_nil, ← List.range_eq_range'] at this
      refine Eq.trans this ?_
      unfold wsF
      rw [if_neg (by simp [WS.many, WS.cur]; exact c)]
  by_cases c : rn = 0
  · subst c
    exact hA ⟨0, [], []⟩ (by simp) (by decide) rfl
  · have e : prtL wdR re rn = wdR :: (List.range rn).map re := by unfold prtL; rw [if_neg c]
    rw [e]
    obtain ⟨p, hp⟩ := hA ⟨1, (List.range rn).map re, []⟩ (by simp) (by simp [WS.many, WS.cur]; exact c) rfl
    refine ⟨p, ?_⟩
    rw [List.cons_append]
    show (match wsT (0, wdR) ⟨0, [], []⟩ with | .error _ => none | .ok s' => wsF _ s') = _
    rw [word_R]
    have := wsF_names h1.2 h1.1 w1 (fun k => ⟨1, (List.range k).map re, []⟩) (fun k => by simp) (fun k => rfl) (fun k => by simp [addW, List.range_succ]) (prtL wdA av an) rn 0 (by omega)
    rw [← List.range_eq_range'] at this
    exact Eq.trans this hp
theorem hwB_no {f : Nat → ByteArray} {n : Nat} (h : hwB f n = false) : ∀ i, i < n → isW (f i) = false := fun i hi => by
  unfold hwB at h
  cases c : isW (f i) with
  | false => rfl
  | true => exact absurd ⟨i, hi, c⟩ (of_decide_eq_false h)
/-- what can be written is read back as it was -/
theorem rw_txt {re av : Nat → ByteArray} {rn an : Nat} (h : wrB rn re an av = true) : ∃ p, rwV (txtB rn re an av) = .ok ⟨p, (List.range rn).map re, (List.range an).map av⟩ := by
  unfold wrB at h
  simp only [Bool.and_eq_true, Bool.not_eq_true', decide_eq_true_eq] at h
  obtain ⟨⟨⟨h1, h2⟩, h3, h4⟩, h5⟩ := h
  obtain ⟨p, hp⟩ := wsF_parts h1 h2 (hwB_no h3) (hwB_no h4)
  have hn : ∀ (F : Nat → ByteArray) (n : Nat) (wd : ByteArray), namB F n = true → (0 < wd.size ∧ ∀ j, j < wd.size → bt wd j ≠ 32) → ∀ t ∈ prtL wd F n, 0 < t.size ∧ ∀ j, j < t.size → bt t j ≠ 32 := fun F n wd hF hwd t ht => by
    unfold namB at hF
    simp only [Bool.and_eq_true, decide_eq_true_eq] at hF
    unfold prtL at ht
    split at ht
    · cases ht
    · rcases List.mem_cons.1 ht with rfl | ht
      · exact hwd
      · obtain ⟨i, hi, rfl⟩ := List.mem_map.1 ht
        exact name_tok (namesB_at hF.2 (by simpa using hi)).1
  have hk := tks_txt rn re an av (fun t ht => by
    rcases List.mem_append.1 ht with ht | ht
    · exact hn re rn wdR h1 ⟨by decide +kernel, by decide +kernel⟩ t ht
    · exact hn av an wdA h2 ⟨by decide +kernel, by decide +kernel⟩ t ht)
  refine ⟨p, ?_⟩
  unfold rwV
  rw [if_neg (by omega), wsL_F, hk]
  exact hp
end Go.Proofs.YtmlfijapndkfhaaDoor
