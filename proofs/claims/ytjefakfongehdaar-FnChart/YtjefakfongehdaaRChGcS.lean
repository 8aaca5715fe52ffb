/- Which charts are good, as the model says it. -/
import Derived.Test.YtjefakfongehdaaRChBase
import Derived.Test.YtjefakfongehdaaRChM
namespace Go.Proofs.YtjefakfongehdaaR
open Go.RowKit
theorem kidB_succ (j : Nat) (f : Nat → Int) (k : Nat) : kidB (j + 1) f k = (kidB j f k || decide (f (j * 2) = (k : Int))) := by
  unfold kidB; rw [List.range_succ, List.any_append]; simp
theorem gchB_sta {n m : Nat} {f g : Nat → Int} {i : Nat} (hi : i < n) (h : staB n f i = false) : gchB n f m g = false := by
  cases hq : gchB n f m g with
  | false => rfl
  | true =>
    unfold gchB at hq
    simp only [Bool.and_eq_true, List.all_eq_true, List.mem_range] at hq
    rw [hq.2.1 i hi] at h
    cases h
theorem gchB_arw {n m : Nat} {f g : Nat → Int} {k : Nat} (hk : k < m) (h : arwB n g k = false) : gchB n f m g = false := by
  cases hq : gchB n f m g with
  | false => rfl
  | true =>
    unfold gchB at hq
    simp only [Bool.and_eq_true, List.all_eq_true, List.mem_range] at hq
    rw [hq.2.2 k hk] at h
    cases h
theorem gchB_mk {n m : Nat} {f g : Nat → Int} (h1 : 1 ≤ n) (h2 : n ≤ 12) (h3 : m ≤ 24) (hs : ∀ i, i < n → staB n f i = true) (ha : ∀ k, k < m → arwB n g k = true) : gchB n f m g = true := by
  unfold gchB
  simp only [Bool.and_eq_true, decide_eq_true_eq, List.all_eq_true, List.mem_range]
  exact ⟨⟨⟨h1, h2⟩, h3⟩, hs, ha⟩
theorem gchB_sizes {n m : Nat} {f g : Nat → Int} (h : n < 1 ∨ 12 < n ∨ 24 < m) : gchB n f m g = false := by
  cases hq : gchB n f m g with
  | false => rfl
  | true =>
    unfold gchB at hq
    simp only [Bool.and_eq_true, decide_eq_true_eq] at hq
    omega
set_option maxRecDepth 20000 in
set_option maxHeartbeats 8000000 in
theorem sGoodChart (a b : Option Addr) (n c m d : Nat) (f g : Nat → Int) (w : World) (hn : n ≤ 1048576) (hm : m ≤ 1048576) (hf : IL w a (n * 2) f) (hg : IL w b (m * 3) g) :
    Calls Try.prog 14 #[chv a n c b m d] w fun e w' => e = .returned (.bool (gchB n f m g)) ∧ Below w.heap.size w w' := by
  have hb0 : Below w.heap.size w (w.alloc (chO a n c b m d 26)) := (Below.refl _ _).alloc (Nat.le_refl _) _
  have b0 := bx_new (w := w) (chL a n c b m d) 26 rfl
  have x0 := b0.c0
  have x1 := b0.c1
  by_cases h1 : n < 1
  · rw [gchB_sizes (.inl h1)]
    have j1 : (n : Int) < 1 := by omega
    go_enter Try.func14, Try.ntmps14
    go_wp2
    go_ret
    exact ⟨rfl, hb0⟩
  have j1 : ¬ (n : Int) < 1 := by omega
  by_cases h2 : 12 < n
  · rw [gchB_sizes (.inr (.inl h2))]
    have j2 : (12 : Int) < (n : Int) := by omega
    go_enter Try.func14, Try.ntmps14
    go_wp2
    go_ret
    exact ⟨rfl, hb0⟩
  have j2 : ¬ (12 : Int) < (n : Int) := by omega
  by_cases h3 : 24 < m
  · rw [gchB_sizes (.inr (.inr h3))]
    have j3 : (24 : Int) < (m : Int) := by omega
    go_enter Try.func14, Try.ntmps14
    go_wp2
    go_ret
    exact ⟨rfl, hb0⟩
  have j3 : ¬ (24 : Int) < (m : Int) := by omega
  have HT : Hid ((∀ i, i < n → staB n f i = true) → (∀ k, k < m → arwB n g k = true) → gchB n f m g = true) := gchB_mk (by omega) (by omega) (by omega)
  have HF : Hid (∀ i, i < n → staB n f i = false → gchB n f m g = false) := fun i hi h => gchB_sta hi h
  have HA : Hid (∀ k, k < m → arwB n g k = false → gchB n f m g = false) := fun k hk h => gchB_arw hk h
  generalize gchB n f m g = Q at *
  have hf0 := hf.below hb0
  have hg0 := hg.below hb0
  clear hf hg
  go_enter Try.func14, Try.ntmps14
  go_wp2
  generalize w.alloc (chO a n c b m d 26) = w1 at *
  clear x0 x1
  go_loopw [29] (fun i wr => ∃ k : Nat, k ≤ n ∧ i = .int .i64 (k : Int) ∧ Hid (∀ j, j < k → staB n f j = true) ∧ Below w1.heap.size w1 wr) (fun i _ => n - (intOf i).toNat)
  case atStart => exact ⟨0, Nat.zero_le _, rfl, fun j hj => absurd hj (Nat.not_lt_zero _), Below.refl _ _⟩
  case round =>
    obtain ⟨k, hk, rfl, HS, hB⟩ := hrel
    by_cases hlt : k < n
    · obtain ⟨gb, go_, rfl, gl_, y0, y1⟩ := il_two (hf0.below hB) hlt
      have i0 : (0 : Int) ≤ (k : Int) := by omega
      have i1 : (k : Int) < (n : Int) := by omega
      obtain ⟨A, hA⟩ : ∃ A, f (k * 2) = A := ⟨_, rfl⟩
      obtain ⟨B, hBe⟩ : ∃ B, f (k * 2 + 1) = B := ⟨_, rfl⟩
      have HBe : Hid (f (k * 2 + 1) = B) := hBe
      have HAe : Hid (f (k * 2) = A) := hA
      rw [hA] at y0
      rw [hBe] at y1
      clear hA hBe
      have hbt : Below wr.heap.size wr (wr.alloc (.cells #[.int .i64 A, .int .i64 B] 67)) := (Below.refl _ _).alloc (Nat.le_refl _) _
      have bs := bx_new (w := wr) [.int .i64 A, .int .i64 B] 67 rfl
      have b2 := (b0.on hB).on hbt
      have hBw := stepA hB hbt
      have z0 := bs.c0
      have z1 := bs.c1
      have v0 := b2.c0
      have v1 := b2.c1
      have hBv := stepA hb0 hBw
      by_cases hk0 : k = 0
      · have e0 : ((k : Int) == 0) = true := by simp [hk0]
        have e1 : ¬ (0 : Int) < (k : Int) := by omega
        by_cases hA1 : A = -1
        · have HPT : Hid (parB f k = true) := by show parB f k = true; unfold parB; rw [if_pos hk0]; have := HAe.out; rw [hk0] at this; simpa [hA1] using this
          subst hA1
          clear HAe hbt hk0
          have HQ1 : Hid (fstB n f k = false → Q = false) := fun h => HF.out k hlt (by unfold staB; rw [h, Bool.and_false])
          have HQ2 : Hid (fstB n f k = true → ∀ j, j < k + 1 → staB n f j = true) := fun h j hj => by
            by_cases e : j = k
            · rw [e]; unfold staB; rw [h, HPT.out]; rfl
            · exact HS.out j (by omega)
          clear HF HPT HS
          go_wp2
          generalize hw2 : wr.alloc (.cells #[.int .i64 (-1), .int .i64 B] 67) = w2 at *
          clear hw2 z0 z1 v0 v1 y0 y1
          go_loopw [6, 59] (fun q i wr => ∃ j : Nat, j ≤ n ∧ i = .int .i64 (j : Int) ∧ q = .bool (kidB j f k) ∧ Below w2.heap.size w2 wr) (fun _ i _ => n - (intOf i).toNat)
          case atStart => exact ⟨0, Nat.zero_le _, rfl, rfl, Below.refl _ _⟩
          case round =>
            obtain ⟨j, hj, rfl, rfl, hB2⟩ := hrel
            have b5 := b2.on hB2
            have x5 := b5.c0
            have s5 := bs.on hB2
            have s0 := s5.c0
            have s1 := s5.c1
            have hBr := stepA hBw hB2
            have hf5 := hf0.below hBr
            by_cases hjl : j < n
            · obtain ⟨gb', go_', e', l', y0, y1⟩ := il_two hf5 hjl
              cases e'
              have c0 : (0 : Int) ≤ (j : Int) := by omega
              have c1 : (j : Int) < (n : Int) := by omega
              have HK : Hid (kidB (j + 1) f k = (kidB j f k || decide (f (j * 2) = (k : Int)))) := kidB_succ j f k
              generalize f (j * 2) = P at *
              generalize f (j * 2 + 1) = P2 at *
              have hbt : Below wr.heap.size wr (wr.alloc (.cells #[.int .i64 P, .int .i64 P2] 67)) := (Below.refl _ _).alloc (Nat.le_refl _) _
              have b6 := bx_new (w := wr) [.int .i64 P, .int .i64 P2] 67 rfl
              have z0 := b6.c0
              have z1 := b6.c1
              have hB3 := stepA hB2 hbt
              clear HQ1 HQ2 HT HA hf5 b5 s5 b6 hbt hBr hB2
              cases hq : kidB j f k with
              | true =>
                have HK2 : Hid (kidB (j + 1) f k = true) := by show kidB (j + 1) f k = true; rw [HK.out, hq]; rfl
                clear HK
                go_wp2
                exact ⟨⟨j + 1, by omega, by go_num, by rw [HK2.out], hB3⟩, by simp [intOf]; omega⟩
              | false =>
                by_cases hP : P = (k : Int)
                · have HK2 : Hid (kidB (j + 1) f k = true) := by show kidB (j + 1) f k = true; rw [HK.out, hq]; simp [hP]
                  subst hP
                  clear HK
                  go_wp2
                  exact ⟨⟨j + 1, by omega, by go_num, by rw [HK2.out], hB3⟩, by simp [intOf]; omega⟩
                · have HK2 : Hid (kidB (j + 1) f k = false) := by show kidB (j + 1) f k = false; rw [HK.out, hq]; simp [hP]
                  have hP' : (P == (k : Int)) = false := by simpa using hP
                  clear HK hP
                  go_wp2
                  exact ⟨⟨j + 1, by omega, by go_num, by rw [HK2.out], hB3⟩, by simp [intOf]; omega⟩
            · have hjn : j = n := by omega
              subst hjn
              have hBz := stepA hb0 hBr
              cases hq : kidB j f k with
              | false =>
                by_cases hBm : B = -1
                · have HS2 : Hid (∀ i, i < k + 1 → staB j f i = true) := HQ2.out (by unfold fstB; rw [if_neg (by rw [hq]; decide), HBe.out]; simp [hBm])
                  subst hBm
                  clear HQ1 HQ2 HBe
                  go_wp2
                  exact ⟨⟨k + 1, by omega, by go_num, HS2, hBr⟩, by simp [intOf]; omega⟩
                · have hQ : Q = false := HQ1.out (by unfold fstB; rw [if_neg (by rw [hq]; decide), HBe.out]; simp [hBm])
                  subst hQ
                  have hB' : (B == -1) = false := by simpa using hBm
                  clear HQ1 HQ2 HBe
                  go_wp2
                  go_ret
                  exact ⟨rfl, hBz⟩
              | true =>
                by_cases hB0 : B < 0
                · have hQ : Q = false := HQ1.out (by unfold fstB; rw [if_pos hq, HBe.out]; simp; intro h; omega)
                  subst hQ
                  clear HQ1 HQ2 HBe
                  go_wp2
                  go_ret
                  exact ⟨rfl, hBz⟩
                · by_cases hBn : B < (j : Int)
                  · obtain ⟨t, rfl⟩ : ∃ t : Nat, B = (t : Int) := ⟨B.toNat, by omega⟩
                    obtain ⟨gb', go_', e', l', y0, y1⟩ := il_two hf5 (show t < j by omega)
                    cases e'
                    have c0 : (0 : Int) ≤ (t : Int) := by omega
                    have c2 : ¬ (j : Int) ≤ (t : Int) := by omega
                    by_cases hP : f (t * 2) = (k : Int)
                    · have HS2 : Hid (∀ i, i < k + 1 → staB j f i = true) := HQ2.out (by unfold fstB; rw [if_pos hq, HBe.out, Int.toNat_natCast, hP]; simp; omega)
                      rw [hP] at y0
                      clear HQ1 HQ2 HBe hP
                      go_wp2
                      exact ⟨⟨k + 1, by omega, by go_num, HS2, hBr⟩, by simp [intOf]; omega⟩
                    · have hQ : Q = false := HQ1.out (by unfold fstB; rw [if_pos hq, HBe.out, Int.toNat_natCast]; simp [hP])
                      subst hQ
                      have hP' : (f (t * 2) == (k : Int)) = false := by simpa using hP
                      generalize f (t * 2) = P at *
                      clear HQ1 HQ2 HBe hP
                      go_wp2
                      go_ret
                      exact ⟨rfl, hBz⟩
                  · have hQ : Q = false := HQ1.out (by unfold fstB; rw [if_pos hq, HBe.out]; simp; intro h h2; omega)
                    have c2 : (j : Int) ≤ B := by omega
                    subst hQ
                    clear HQ1 HQ2 HBe
                    go_wp2
                    go_ret
                    exact ⟨rfl, hBz⟩
        · have hQ : Q = false := HF.out k hlt (by unfold staB parB; rw [if_pos hk0]; have := HAe.out; rw [hk0] at this; have h9 : f 0 = A := this; rw [h9]; simp [hA1])
          subst hQ
          have e2 : (A == -1) = false := by simpa using hA1
          clear HF HA HT HS HAe HBe hk0
          go_wp2
          go_ret
          exact ⟨rfl, hBv⟩
      · have e0 : ((k : Int) == 0) = false := by simp; omega
        have e1 : (0 : Int) < (k : Int) := by omega
        by_cases hA1 : A < 0
        · have hQ : Q = false := HF.out k hlt (by unfold staB parB; rw [if_neg hk0, HAe.out]; simp; intro h; omega)
          subst hQ
          clear HF HA HT HS HAe HBe
          go_wp2
          go_ret
          exact ⟨rfl, hBv⟩
        · by_cases hA2 : A < (k : Int)
          · have HPT : Hid (parB f k = true) := by show parB f k = true; unfold parB; rw [if_neg hk0, HAe.out]; simp; omega
            have e3 : ¬ (k : Int) ≤ A := by omega
            clear HAe hbt hk0
            have HQ1 : Hid (fstB n f k = false → Q = false) := fun h => HF.out k hlt (by unfold staB; rw [h, Bool.and_false])
            have HQ2 : Hid (fstB n f k = true → ∀ j, j < k + 1 → staB n f j = true) := fun h j hj => by
              by_cases e : j = k
              · rw [e]; unfold staB; rw [h, HPT.out]; rfl
              · exact HS.out j (by omega)
            clear HF HPT HS
            go_wp2
            generalize hw2 : wr.alloc (.cells #[.int .i64 A, .int .i64 B] 67) = w2 at *
            clear hw2 z0 z1 v0 v1 y0 y1
            go_loopw [6, 59] (fun q i wr => ∃ j : Nat, j ≤ n ∧ i = .int .i64 (j : Int) ∧ q = .bool (kidB j f k) ∧ Below w2.heap.size w2 wr) (fun _ i _ => n - (intOf i).toNat)
            case atStart => exact ⟨0, Nat.zero_le _, rfl, rfl, Below.refl _ _⟩
            case round =>
              obtain ⟨j, hj, rfl, rfl, hB2⟩ := hrel
              have b5 := b2.on hB2
              have x5 := b5.c0
              have s5 := bs.on hB2
              have s0 := s5.c0
              have s1 := s5.c1
              have hBr := stepA hBw hB2
              have hf5 := hf0.below hBr
              by_cases hjl : j < n
              · obtain ⟨gb', go_', e', l', y0, y1⟩ := il_two hf5 hjl
                cases e'
                have c0 : (0 : Int) ≤ (j : Int) := by omega
                have c1 : (j : Int) < (n : Int) := by omega
                have HK : Hid (kidB (j + 1) f k = (kidB j f k || decide (f (j * 2) = (k : Int)))) := kidB_succ j f k
                generalize f (j * 2) = P at *
                generalize f (j * 2 + 1) = P2 at *
                have hbt : Below wr.heap.size wr (wr.alloc (.cells #[.int .i64 P, .int .i64 P2] 67)) := (Below.refl _ _).alloc (Nat.le_refl _) _
                have b6 := bx_new (w := wr) [.int .i64 P, .int .i64 P2] 67 rfl
                have z0 := b6.c0
                have z1 := b6.c1
                have hB3 := stepA hB2 hbt
                clear HQ1 HQ2 HT HA hf5 b5 s5 b6 hbt hBr hB2
                cases hq : kidB j f k with
                | true =>
                  have HK2 : Hid (kidB (j + 1) f k = true) := by show kidB (j + 1) f k = true; rw [HK.out, hq]; rfl
                  clear HK
                  go_wp2
                  exact ⟨⟨j + 1, by omega, by go_num, by rw [HK2.out], hB3⟩, by simp [intOf]; omega⟩
                | false =>
                  by_cases hP : P = (k : Int)
                  · have HK2 : Hid (kidB (j + 1) f k = true) := by show kidB (j + 1) f k = true; rw [HK.out, hq]; simp [hP]
                    subst hP
                    clear HK
                    go_wp2
                    exact ⟨⟨j + 1, by omega, by go_num, by rw [HK2.out], hB3⟩, by simp [intOf]; omega⟩
                  · have HK2 : Hid (kidB (j + 1) f k = false) := by show kidB (j + 1) f k = false; rw [HK.out, hq]; simp [hP]
                    have hP' : (P == (k : Int)) = false := by simpa using hP
                    clear HK hP
                    go_wp2
                    exact ⟨⟨j + 1, by omega, by go_num, by rw [HK2.out], hB3⟩, by simp [intOf]; omega⟩
              · have hjn : j = n := by omega
                subst hjn
                have hBz := stepA hb0 hBr
                cases hq : kidB j f k with
                | false =>
                  by_cases hBm : B = -1
                  · have HS2 : Hid (∀ i, i < k + 1 → staB j f i = true) := HQ2.out (by unfold fstB; rw [if_neg (by rw [hq]; decide), HBe.out]; simp [hBm])
                    subst hBm
                    clear HQ1 HQ2 HBe
                    go_wp2
                    exact ⟨⟨k + 1, by omega, by go_num, HS2, hBr⟩, by simp [intOf]; omega⟩
                  · have hQ : Q = false := HQ1.out (by unfold fstB; rw [if_neg (by rw [hq]; decide), HBe.out]; simp [hBm])
                    subst hQ
                    have hB' : (B == -1) = false := by simpa using hBm
                    clear HQ1 HQ2 HBe
                    go_wp2
                    go_ret
                    exact ⟨rfl, hBz⟩
                | true =>
                  by_cases hB0 : B < 0
                  · have hQ : Q = false := HQ1.out (by unfold fstB; rw [if_pos hq, HBe.out]; simp; intro h; omega)
                    subst hQ
                    clear HQ1 HQ2 HBe
                    go_wp2
                    go_ret
                    exact ⟨rfl, hBz⟩
                  · by_cases hBn : B < (j : Int)
                    · obtain ⟨t, rfl⟩ : ∃ t : Nat, B = (t : Int) := ⟨B.toNat, by omega⟩
                      obtain ⟨gb', go_', e', l', y0, y1⟩ := il_two hf5 (show t < j by omega)
                      cases e'
                      have c0 : (0 : Int) ≤ (t : Int) := by omega
                      have c2 : ¬ (j : Int) ≤ (t : Int) := by omega
                      by_cases hP : f (t * 2) = (k : Int)
                      · have HS2 : Hid (∀ i, i < k + 1 → staB j f i = true) := HQ2.out (by unfold fstB; rw [if_pos hq, HBe.out, Int.toNat_natCast, hP]; simp; omega)
                        rw [hP] at y0
                        clear HQ1 HQ2 HBe hP
                        go_wp2
                        exact ⟨⟨k + 1, by omega, by go_num, HS2, hBr⟩, by simp [intOf]; omega⟩
                      · have hQ : Q = false := HQ1.out (by unfold fstB; rw [if_pos hq, HBe.out, Int.toNat_natCast]; simp [hP])
                        subst hQ
                        have hP' : (f (t * 2) == (k : Int)) = false := by simpa using hP
                        generalize f (t * 2) = P at *
                        clear HQ1 HQ2 HBe hP
                        go_wp2
                        go_ret
                        exact ⟨rfl, hBz⟩
                    · have hQ : Q = false := HQ1.out (by unfold fstB; rw [if_pos hq, HBe.out]; simp; intro h h2; omega)
                      have c2 : (j : Int) ≤ B := by omega
                      subst hQ
                      clear HQ1 HQ2 HBe
                      go_wp2
                      go_ret
                      exact ⟨rfl, hBz⟩
          · have hQ : Q = false := HF.out k hlt (by unfold staB parB; rw [if_neg hk0, HAe.out]; simp; intro h; omega)
            have e3 : (k : Int) ≤ A := by omega
            subst hQ
            clear HF HA HT HS HAe HBe
            go_wp2
            go_ret
            exact ⟨rfl, hBv⟩
    · skip
      have hke : k = n := by omega
      subst hke
      have b1 := b0.on hB
      have x1 := b1.c1
      have hg1 := hg0.below hB
      have hBw := stepA hb0 hB
      obtain ⟨w2, hw2⟩ : ∃ w2, w2 = wr := ⟨wr, rfl⟩
      subst hw2
      have HT2 : Hid ((∀ i, i < m → arwB k g i = true) → Q = true) := HT.out HS.out
      clear HT HF HS b0 hf0 hg0 hB
      have HT := HT2
      clear HT2
      go_wp2
      go_loopw [107] (fun i wr => ∃ p : Nat, p ≤ m ∧ i = .int .i64 (p : Int) ∧ Hid (∀ j, j < p → arwB k g j = true) ∧ Below w2.heap.size w2 wr) (fun i _ => m - (intOf i).toNat)
      case atStart => exact ⟨0, Nat.zero_le _, rfl, fun j hj => absurd hj (Nat.not_lt_zero _), Below.refl _ _⟩
      case round =>
        obtain ⟨p, hp, rfl, HN, hB2⟩ := hrel
        have hBr := stepA hBw hB2
        by_cases hpl : p < m
        · obtain ⟨gb, go_, rfl, gl_, y0, y1, y2⟩ := il_three (hg1.below hB2) hpl
          have i0 : (0 : Int) ≤ (p : Int) := by omega
          have i1 : (p : Int) < (m : Int) := by omega
          have HAE : Hid (arwB k g p = (decide (0 ≤ g (p * 3)) && decide (g (p * 3) < (k : Int)) && decide (0 ≤ g (p * 3 + 2)) && decide (g (p * 3 + 2) < (k : Int)) && decide (0 ≤ g (p * 3 + 1)) && decide (g (p * 3 + 1) < 6))) := rfl
          generalize g (p * 3) = X at *
          generalize g (p * 3 + 1) = Y at *
          generalize g (p * 3 + 2) = Z at *
          have HAX : Hid ((decide (0 ≤ X) && decide (X < (k : Int)) && decide (0 ≤ Z) && decide (Z < (k : Int)) && decide (0 ≤ Y) && decide (Y < 6)) = false → Q = false) := fun h => HA.out p hpl (HAE.out.trans h)
          have HAY : Hid ((decide (0 ≤ X) && decide (X < (k : Int)) && decide (0 ≤ Z) && decide (Z < (k : Int)) && decide (0 ≤ Y) && decide (Y < 6)) = true → ∀ j, j < p + 1 → arwB k g j = true) := fun h j hj => by
            by_cases e : j = p
            · rw [e]; exact HAE.out.trans h
            · exact HN.out j (by omega)
          clear HAE
          have hbt : Below wr.heap.size wr (wr.alloc (.cells #[.int .i64 X, .int .i64 Y, .int .i64 Z] 69)) := (Below.refl _ _).alloc (Nat.le_refl _) _
          have b3 := bx_new (w := wr) [.int .i64 X, .int .i64 Y, .int .i64 Z] 69 rfl
          have z0 := b3.c0
          have z1 := b3.c1
          have z2 := b3.c2
          have hBt := stepA hB2 hbt
          have hBv := stepA hBr hbt
          clear hbt b3
          by_cases q0 : X < 0
          · have hQ : Q = false := HAX.out (by simp; omega)
            subst hQ
            clear HAX HAY HT HA HN
            go_wp2
            go_ret
            exact ⟨rfl, hBv⟩
          by_cases q1 : (k : Int) ≤ X
          · have hQ : Q = false := HAX.out (by simp; omega)
            subst hQ
            clear HAX HAY HT HA HN
            go_wp2
            go_ret
            exact ⟨rfl, hBv⟩
          by_cases q2 : Z < 0
          · have hQ : Q = false := HAX.out (by simp; omega)
            subst hQ
            clear HAX HAY HT HA HN
            go_wp2
            go_ret
            exact ⟨rfl, hBv⟩
          by_cases q3 : (k : Int) ≤ Z
          · have hQ : Q = false := HAX.out (by simp; omega)
            subst hQ
            clear HAX HAY HT HA HN
            go_wp2
            go_ret
            exact ⟨rfl, hBv⟩
          by_cases q4 : Y < 0
          · have hQ : Q = false := HAX.out (by simp; omega)
            subst hQ
            clear HAX HAY HT HA HN
            go_wp2
            go_ret
            exact ⟨rfl, hBv⟩
          by_cases q5 : 6 ≤ Y
          · have hQ : Q = false := HAX.out (by simp; omega)
            subst hQ
            clear HAX HAY HT HA HN
            go_wp2
            go_ret
            exact ⟨rfl, hBv⟩
          have HN2 : Hid (∀ j, j < p + 1 → arwB k g j = true) := HAY.out (by simp; omega)
          clear HAX HAY HT HA HN
          go_wp2
          exact ⟨⟨p + 1, by omega, by go_num, HN2, hBt⟩, by simp [intOf]; omega⟩
        · have hpm : p = m := by omega
          subst hpm
          have hQ : Q = true := HT.out HN.out
          subst hQ
          clear HT HA HN
          go_wp2
          go_ret
          exact ⟨rfl, hBr⟩
end Go.Proofs.YtjefakfongehdaaR
