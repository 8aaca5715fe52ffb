/- A text gone through by its runes, beside the model's look at its bytes. -/
import Derived.Test.YtmlfijapndkfhaaDoorQWhM
import Derived.Shelf.Unicode.DecodeAny
import Derived.Lib.RuneCount
namespace Go.Proofs.YtmlfijapndkfhaaDoor
theorem rn_two (f : Nat → Int) (N i : Nat) (lo hi : Int) : rn f N i 2 lo hi = if i + 1 < N ∧ lo ≤ f (i + 1) ∧ f (i + 1) ≤ hi then 2 else 0 := by
  unfold rn
  simp only [contK, Bool.true_and, Bool.and_eq_true, decide_eq_true_eq, if_true, Nat.add_zero]
theorem rn_three (f : Nat → Int) (N i : Nat) (lo hi : Int) : rn f N i 3 lo hi = if (i + 1 < N ∧ lo ≤ f (i + 1) ∧ f (i + 1) ≤ hi) ∧ i + 2 < N ∧ 128 ≤ f (i + 2) ∧ f (i + 2) ≤ 191 then 3 else 0 := by
  unfold rn
  simp [contK, Nat.add_assoc]
theorem rn_four (f : Nat → Int) (N i : Nat) (lo hi : Int) : rn f N i 4 lo hi = if ((i + 1 < N ∧ lo ≤ f (i + 1) ∧ f (i + 1) ≤ hi) ∧ i + 2 < N ∧ 128 ≤ f (i + 2) ∧ f (i + 2) ≤ 191) ∧ i + 3 < N ∧ 128 ≤ f (i + 3) ∧ f (i + 3) ≤ 191 then 4 else 0 := by
  unfold rn
  simp [contK, Nat.add_assoc]
/-- what a step over one rune has to do with the bytes -/
def StepOf (k : Nat) (b0 : Nat) (d : Nat × Nat) : Prop := (k = 0 ∧ d = (65533, 1)) ∨ (k = 1 ∧ b0 < 128 ∧ d = (b0, 1)) ∨ (2 ≤ k ∧ 128 ≤ d.1 ∧ d.2 = k)
set_option maxHeartbeats 4000000 in
theorem step_of (f : Nat → Int) (N i b0 b1 b2 b3 : Nat) (hi : i < N) (h0 : f i = b0) (h1 : f (i + 1) = b1) (h2 : f (i + 2) = b2) (h3 : f (i + 3) = b3) (u0 : b0 < 256) (u1 : b1 < 256) (u2 : b2 < 256) (u3 : b3 < 256) :
    StepOf (rnK f N i) b0 (Lib.decodeN (N - i) b0 b1 b2 b3) := by
  have hn : 1 ≤ N - i := by omega
  obtain ⟨n, en⟩ : ∃ n, n = N - i := ⟨_, rfl⟩
  rw [← en] at hn ⊢
  unfold StepOf rnK
  rw [rn_two, rn_three, rn_four, h0, h1, h2, h3]
  by_cases c0 : b0 < 128
  · rw [if_pos (by omega)]
    exact .inr (.inl ⟨rfl, c0, by simp [Lib.decodeN, c0]⟩)
  rw [if_neg (by omega)]
  by_cases c1 : b0 < 194
  · rw [if_neg (by omega), if_neg (by omega), if_neg (by omega)]
    refine .inl ⟨rfl, Lib.bad_eq n b0 b1 b2 b3 u0 ?_⟩
    unfold Lib.firstT
    rw [if_neg c0, if_pos c1]
  by_cases c2 : b0 < 224
  · rw [if_pos (by omega), ← Lib.slow_C2 n b0 b1 b2 b3 hn u1 u2 u3 ⟨by omega, c2⟩]
    unfold Lib.slowN
    repeat' split
    all_goals first | (exfalso; omega) | (refine .inl ⟨rfl, rfl⟩) | (refine .inr (.inr ⟨?_, ?_, ?_⟩) <;> (try simp only) <;> omega)
  by_cases c3 : b0 < 240
  · rw [if_neg (by omega), if_pos (by omega)]
    by_cases e1 : b0 = 224
    · rw [← Lib.slow_E0 n b0 b1 b2 b3 hn u1 u2 u3 e1, show (if (b0 : Int) = 224 then (160 : Int) else 128) = 160 from if_pos (by omega), show (if (b0 : Int) = 237 then (159 : Int) else 191) = 191 from if_neg (by omega)]
      unfold Lib.slowN
      repeat' split
      all_goals first | (exfalso; omega) | (refine .inl ⟨rfl, rfl⟩) | (refine .inr (.inr ⟨?_, ?_, ?_⟩) <;> (try simp only) <;> omega)
    by_cases e2 : b0 = 237
    · rw [← Lib.slow_ED n b0 b1 b2 b3 hn u1 u2 u3 e2, show (if (b0 : Int) = 224 then (160 : Int) else 128) = 128 from if_neg (by omega), show (if (b0 : Int) = 237 then (159 : Int) else 191) = 159 from if_pos (by omega)]
      unfold Lib.slowN
      repeat' split
      all_goals first | (exfalso; omega) | (refine .inl ⟨rfl, rfl⟩) | (refine .inr (.inr ⟨?_, ?_, ?_⟩) <;> (try simp only) <;> omega)
    rw [← Lib.slow_E1 n b0 b1 b2 b3 hn u1 u2 u3 (by omega), show (if (b0 : Int) = 224 then (160 : Int) else 128) = 128 from if_neg (by omega), show (if (b0 : Int) = 237 then (159 : Int) else 191) = 191 from if_neg (by omega)]
    unfold Lib.slowN
    repeat' split
    all_goals first | (exfalso; omega) | (refine .inl ⟨rfl, rfl⟩) | (refine .inr (.inr ⟨?_, ?_, ?_⟩) <;> (try simp only) <;> omega)
  by_cases c4 : b0 ≤ 244
  · rw [if_neg (by omega), if_neg (by omega), if_pos (by omega)]
    by_cases e1 : b0 = 240
    · rw [← Lib.slow_F0 n b0 b1 b2 b3 hn u1 u2 u3 e1, show (if (b0 : Int) = 240 then (144 : Int) else 128) = 144 from if_pos (by omega), show (if (b0 : Int) = 244 then (143 : Int) else 191) = 191 from if_neg (by omega)]
      unfold Lib.slowN
      repeat' split
      all_goals first | (exfalso; omega) | (refine .inl ⟨rfl, rfl⟩) | (refine .inr (.inr ⟨?_, ?_, ?_⟩) <;> (try simp only) <;> omega)
    by_cases e2 : b0 = 244
    · rw [← Lib.slow_F4 n b0 b1 b2 b3 hn u1 u2 u3 e2, show (if (b0 : Int) = 240 then (144 : Int) else 128) = 128 from if_neg (by omega), show (if (b0 : Int) = 244 then (143 : Int) else 191) = 143 from if_pos (by omega)]
      unfold Lib.slowN
      repeat' split
      all_goals first | (exfalso; omega) | (refine .inl ⟨rfl, rfl⟩) | (refine .inr (.inr ⟨?_, ?_, ?_⟩) <;> (try simp only) <;> omega)
    rw [← Lib.slow_F1 n b0 b1 b2 b3 hn u1 u2 u3 (by omega), show (if (b0 : Int) = 240 then (144 : Int) else 128) = 128 from if_neg (by omega), show (if (b0 : Int) = 244 then (143 : Int) else 191) = 191 from if_neg (by omega)]
    unfold Lib.slowN
    repeat' split
    all_goals first | (exfalso; omega) | (refine .inl ⟨rfl, rfl⟩) | (refine .inr (.inr ⟨?_, ?_, ?_⟩) <;> (try simp only) <;> omega)
  · rw [if_neg (by omega), if_neg (by omega), if_neg (by omega)]
    refine .inl ⟨rfl, Lib.bad_eq n b0 b1 b2 b3 u0 ?_⟩
    unfold Lib.firstT
    repeat' split
    all_goals omega
theorem gb_bt (s : ByteArray) (i : Nat) : bt s i = ((s.get! i).toNat : Int) := by
  unfold bt
  by_cases h : i < s.size
  · rw [dif_pos h, Utf8W.get!_of_lt s i h]
  · rw [dif_neg h]
    have : s.get! i = 0 := by
      show s.data[i]! = 0
      rw [getElem!_neg]
      · rfl
      · exact h
    rw [this]; rfl
theorem step_at (s : ByteArray) (i : Nat) (hi : i < s.size) : StepOf (rnK (bt s) s.size i) (s.get! i).toNat (Utf8.decode s i) := by
  rw [Lib.decode_at]
  exact step_of (bt s) s.size i _ _ _ _ hi (gb_bt s i) (gb_bt s _) (gb_bt s _) (gb_bt s _) (UInt8.toNat_lt _) (UInt8.toNat_lt _) (UInt8.toNat_lt _) (UInt8.toNat_lt _)
/-- a rune that a name may have -/
def inN (r : Int) : Bool := decide (128 ≤ r) || letB r
theorem odd_step (s : ByteArray) (i : Nat) (hi : i < s.size) :
    odB (bt s) s.size i = (!(inN ((Utf8.decode s i).1 : Int)) || (decide ((Utf8.decode s i).1 = 65533) && decide ((Utf8.decode s i).2 = 1))) ∧ (odB (bt s) s.size i = false → rnK (bt s) s.size i = (Utf8.decode s i).2) := by
  have h := step_at s i hi
  have hb := gb_bt s i
  unfold odB
  generalize bt s i = x at hb
  subst hb
  generalize (s.get! i).toNat = b at h
  generalize rnK (bt s) s.size i = k at h
  generalize Utf8.decode s i = d at h
  obtain ⟨r, q⟩ := d
  rcases h with ⟨rfl, e⟩ | ⟨rfl, hb, e⟩ | ⟨h1, h2, h3⟩
  · cases e
    simp [inN]
  · cases e
    refine ⟨?_, fun _ => rfl⟩
    have e1 : decide (b = 65533) = false := decide_eq_false (by omega)
    have e2 : decide ((128 : Int) ≤ (b : Int)) = false := decide_eq_false (by omega)
    simp only [inN, e1, e2, Bool.false_and, Bool.or_false, Bool.false_or]
    simp
  · simp only at h2 h3
    subst h3
    refine ⟨?_, fun _ => rfl⟩
    have e1 : decide (q = 0) = false := decide_eq_false (by omega)
    have e2 : decide (q = 1) = false := decide_eq_false (by omega)
    have e3 : decide ((128 : Int) ≤ (r : Int)) = true := decide_eq_true (by omega)
    simp only [inN, e1, e2, e3, Bool.false_and, Bool.and_false, Bool.or_false, Bool.true_or, Bool.not_true]
/-- how many runes are still to come where nothing odd is -/
theorem odd_count (s : ByteArray) : ∀ (q i r b : Nat), s.size ≤ i + q → s.size ≤ i + b → (oddU (bt s) s.size i r).1 < 0 → (oddU (bt s) s.size i r).2 = ((r + Lib.runeCountFrom s b i : Nat) : Int) := by
  intro q
  induction q with
  | zero =>
    intro i r b h1 h2 h3
    rw [oddU_end (by omega), Lib.runeCountFrom_end s b i (by omega)]
    rfl
  | succ q ih =>
    intro i r b h1 h2 h3
    by_cases e : i < s.size
    · obtain ⟨b, rfl⟩ : ∃ b', b = b' + 1 := ⟨b - 1, by omega⟩
      have hs := odd_step s i e
      cases ho : odB (bt s) s.size i with
      | true =>
        rw [oddU_odd e ho] at h3
        exfalso
        simp only at h3
        omega
      | false =>
        have hk := hs.2 ho
        have hp := odB_pos ho
        rw [oddU_go e ho] at h3 ⊢
        rw [ih _ _ b (by omega) (by omega) h3]
        simp only [Lib.runeCountFrom, e, if_true, hk]
        omega
    · rw [oddU_end e, Lib.runeCountFrom_end s b i e]
      rfl
theorem name_count (s : ByteArray) : nameB (bt s) s.size = (decide (s.size ≠ 0) && (decide ((Lib.runeCount s : Int) ≤ 12) && decide ((oddU (bt s) s.size 0 0).1 < 0))) := by
  unfold nameB
  by_cases h : (oddU (bt s) s.size 0 0).1 < 0
  · rw [odd_count s s.size 0 0 s.size (by omega) (by omega) h, decide_eq_true h]
    simp only [Nat.zero_add]
    unfold Lib.runeCount
    by_cases e : s.size = 0
    · rw [decide_eq_false (by omega : ¬ s.size ≠ 0), Lib.runeCountFrom_end s _ 0 (by omega)]
      rfl
    · have : 1 ≤ Lib.runeCountFrom s s.size 0 := by
        obtain ⟨n, hn⟩ : ∃ n, s.size = n + 1 := ⟨s.size - 1, by omega⟩
        rw [hn, Lib.runeCountFrom, if_pos (by omega)]
        omega
      rw [decide_eq_true (p := s.size ≠ 0) e, decide_eq_true (by omega : (1 : Int) ≤ (Lib.runeCountFrom s s.size 0 : Nat))]
      simp
  · rw [decide_eq_false h]
    simp
end Go.Proofs.YtmlfijapndkfhaaDoor
