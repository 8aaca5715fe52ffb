/- Whether a chart is good, as the program tells it. -/
import Derived.Test.YtjefakfongehdaaRChGpI
import Derived.Test.YtjefakfongehdaaRChThree
namespace Go.Proofs.YtjefakfongehdaaR
open Go.RowKit
theorem iEvent (x : Int) (w : World) : Calls Try.prog 46 #[.int .i64 x] w fun e w' => e = .returned (.bool (numB x 6)) ∧ w' = w := by
  by_cases h0 : 0 ≤ x
  · by_cases h1 : x < 6
    · have hr : numB x 6 = true := by unfold numB; simp [h0, h1]
      rw [hr]
      go_enter Try.func46, Try.ntmps46
      go_wp2
      go_ret
      exact ⟨rfl, rfl⟩
    · have hr : numB x 6 = false := by unfold numB; simp [h1]
      rw [hr]
      go_enter Try.func46, Try.ntmps46
      go_wp2
      go_ret
      exact ⟨rfl, rfl⟩
  · have hr : numB x 6 = false := by unfold numB; simp [h0]
    rw [hr]
    go_enter Try.func46, Try.ntmps46
    go_wp2
    go_ret
    exact ⟨rfl, rfl⟩
theorem arwB_num (n : Nat) (g : Nat → Int) (k : Nat) : arwB n g k = (numB (g (k * 3)) n && numB (g (k * 3 + 2)) n && numB (g (k * 3 + 1)) 6) := by
  unfold arwB numB; simp [Bool.and_assoc]
set_option maxRecDepth 20000 in
set_option maxHeartbeats 8000000 in
theorem iGoodChart (a b : Option Addr) (n c m d : Nat) (f g : Nat → Int) (w : World) (hn : n ≤ 1048576) (hm : m ≤ 1048576) (hc : n ≤ c) (hf : IL w a (n * 2) f) (hg : IL w b (m * 3) g) :
    Calls Try.prog 18 #[chv a n c b m d] w fun e w' => e = .returned (.bool (gchB n f m g)) ∧ Below w.heap.size w w' := by
  have hb0 : Below w.heap.size w (w.alloc (chO a n c b m d 26)) := (Below.refl _ _).alloc (Nat.le_refl _) _
  have b0 := bx_new (w := w) (chL a n c b m d) 26 rfl
  have x0 := b0.c0
  have x1 := b0.c1
  by_cases h1 : n < 1
  · rw [gchB_sizes (.inl h1)]
    obtain rfl : n = 0 := by omega
    go_enter Try.func18, Try.ntmps18
    go_wp2
    go_ret
    exact ⟨rfl, hb0⟩
  have j1 : ((n : Int) == 0) = false := by simp; omega
  by_cases h2 : 12 < n
  · rw [gchB_sizes (.inr (.inl h2))]
    have j2 : (12 : Int) < (n : Int) := by omega
    go_enter Try.func18, Try.ntmps18
    go_wp2
    go_ret
    exact ⟨rfl, hb0⟩
  have j2 : ¬ (12 : Int) < (n : Int) := by omega
  by_cases h3 : 24 < m
  · rw [gchB_sizes (.inr (.inr h3))]
    have j3 : (24 : Int) < (m : Int) := by omega
    go_enter Try.func18, Try.ntmps18
    go_wp2
    go_ret
    exact ⟨rfl, hb0⟩
  have j3 : ¬ (24 : Int) < (m : Int) := by omega
  have HT : Hid ((∀ i, i < n → staB n f i = true) → (∀ k, k < m → arwB n g k = true) → gchB n f m g = true) := gchB_mk (by omega) (by omega) (by omega)
  have HF : Hid (∀ i, i < n → staB n f i = false → gchB n f m g = false) := fun i hi h => gchB_sta hi h
  have HA : Hid (∀ k, k < m → arwB n g k = false → gchB n f m g = false) := fun k hk h => gchB_arw hk h
  have kP := fun s w (hs : s < n) h => iParent a n c f s w hs hc h
  have kF := fun s w (hs : s < n) h => iFirstOf a n c f s w hs (by omega) h
  have kN := fun x w => isNum_any x a n c w
  have kE := fun x w => iEvent x w
  have HN : Hid (∀ k, arwB n g k = (numB (g (k * 3)) n && numB (g (k * 3 + 2)) n && numB (g (k * 3 + 1)) 6)) := arwB_num n g
  have HSt : Hid (∀ k, staB n f k = (parB f k && fstB n f k)) := fun k => rfl
  generalize gchB n f m g = Q at *
  have hf0 := hf.below hb0
  have hg0 := hg.below hb0
  clear hf hg
  go_enter Try.func18, Try.ntmps18
  go_wp2
  generalize w.alloc (chO a n c b m d 26) = w1 at *
  clear x0 x1
  go_loopw [25] (fun i wr => ∃ k : Nat, k ≤ n ∧ i = .int .i64 (k : Int) ∧ Hid (∀ j, j < k → staB n f j = true) ∧ Below w1.heap.size w1 wr) (fun i _ => n - (intOf i).toNat)
  case atStart => exact ⟨0, Nat.zero_le _, rfl, fun j hj => absurd hj (Nat.not_lt_zero _), Below.refl _ _⟩
  case round =>
    obtain ⟨k, hk, rfl, HS, hB⟩ := hrel
    have hBw := stepA hb0 hB
    have b1 := b0.on hB
    have hf1 := hf0.below hB
    have hg1 := hg0.below hB
    have x0 := b1.c0
    have x1 := b1.c1
    by_cases hlt : k < n
    · have j0 : (k : Int) < (n : Int) := by omega
      have HQ : Hid (parB f k = false → Q = false) := fun h => HF.out k hlt (by rw [HSt.out k, h]; rfl)
      have HQ2 : Hid (fstB n f k = false → Q = false) := fun h => HF.out k hlt (by rw [HSt.out k, h]; simp)
      have HS2 : Hid (parB f k = true → fstB n f k = true → ∀ j, j < k + 1 → staB n f j = true) := fun h h' j hj => by
        by_cases e : j = k
        · rw [e, HSt.out k, h, h']; rfl
        · exact HS.out j (by omega)
      have kP2 := kP k wr hlt hf1
      have kF2 := fun w h => kF k w hlt h
      clear kP kF kN kE HS b0 hf0 hg0
      generalize parB f k = P at *
      generalize fstB n f k = R at *
      cases P with
      | false =>
        have hq : Q = false := HQ.out rfl
        clear HQ HQ2 HS2 HF HA HT HN HSt
        subst hq
        go_wp2_with fail
        refine kP2.mono ?_
        rintro e w2 ⟨rfl, hb2⟩
        have hB2 := stepA hBw hb2
        clear kP2 kF2 x0 x1
        go_wp2
        go_ret
        exact ⟨rfl, hB2⟩
      | true =>
        cases R with
        | false =>
          have hq : Q = false := HQ2.out rfl
          clear HQ HQ2 HS2 HF HA HT HN HSt
          subst hq
          go_wp2_with fail
          refine kP2.mono ?_
          rintro e w2 ⟨rfl, hb2⟩
          have hB2 := stepA hBw hb2
          have b2 := b1.on hb2
          have hf2 := hf1.below hb2
          clear kP2 x0 x1
          have x0 := b2.c0
          go_wp2_with fail
          refine (kF2 _ hf2).mono ?_
          rintro e w3 ⟨rfl, hb3⟩
          have hB3 := stepA hB2 hb3
          clear kF2 x0
          go_wp2
          go_ret
          exact ⟨rfl, hB3⟩
        | true =>
          have HS3 : Hid (∀ j, j < k + 1 → staB n f j = true) := HS2.out rfl rfl
          clear HQ HQ2 HS2
          go_wp2_with fail
          refine kP2.mono ?_
          rintro e w2 ⟨rfl, hb2⟩
          have hB2 := stepA hB hb2
          have b2 := b1.on hb2
          have hf2 := hf1.below hb2
          clear kP2 x0 x1
          have x0 := b2.c0
          go_wp2_with fail
          refine (kF2 _ hf2).mono ?_
          rintro e w3 ⟨rfl, hb3⟩
          have hB3 := stepA hB2 hb3
          clear kF2 x0
          go_wp2
          exact ⟨⟨k + 1, by omega, by go_num, HS3, hB3⟩, by simp [intOf]; omega⟩
    · have hkn : k = n := by omega
      subst hkn
      have HT2 : Hid ((∀ j, j < m → arwB k g j = true) → Q = true) := HT.out HS.out
      clear HS HT HF kP kF HSt hf0 hf1
      obtain ⟨w2, hw2⟩ : ∃ w2, w2 = wr := ⟨wr, rfl⟩
      subst hw2
      clear hB hg0 b0
      go_wp2
      clear x0 x1
      go_loopw [44] (fun i wr => ∃ q : Nat, q ≤ m ∧ i = .int .i64 (q : Int) ∧ Hid (∀ j, j < q → arwB k g j = true) ∧ Below w2.heap.size w2 wr) (fun i _ => m - (intOf i).toNat)
      case atStart => exact ⟨0, Nat.zero_le _, rfl, fun j hj => absurd hj (Nat.not_lt_zero _), Below.refl _ _⟩
      case round =>
        obtain ⟨q, hq, rfl, HS, hB⟩ := hrel
        have hBr := stepA hBw hB
        have b2 := b1.on hB
        by_cases hlt : q < m
        · obtain ⟨gb, go_, rfl, gl_, y0, y1, y2⟩ := il_three (hg1.below hB) hlt
          have j0 : (0 : Int) ≤ (q : Int) := by omega
          have j4 : (q : Int) < (m : Int) := by omega
          have HQ : Hid (arwB k g q = false → Q = false) := fun h => HA.out q hlt h
          have HS2 : Hid (arwB k g q = true → ∀ j, j < q + 1 → arwB k g j = true) := fun h j hj => by
            by_cases e : j = q
            · rw [e]; exact h
            · exact HS.out j (by omega)
          rw [HN.out q] at HQ HS2
          have kN0 := fun w => kN (g (q * 3)) w
          have kN2 := fun w => kN (g (q * 3 + 2)) w
          have kE1 := fun w => kE (g (q * 3 + 1)) w
          clear kN kE HS HA HN
          generalize numB (g (q * 3)) k = P0 at *
          generalize numB (g (q * 3 + 2)) k = P2 at *
          generalize numB (g (q * 3 + 1)) 6 = P1 at *
          generalize g (q * 3) = X at *
          generalize g (q * 3 + 1) = Y at *
          generalize g (q * 3 + 2) = Z at *
          have hbt : Below wr.heap.size wr (wr.alloc (.cells #[.int .i64 X, .int .i64 Y, .int .i64 Z] 69)) := (Below.refl _ _).alloc (Nat.le_refl _) _
          have b3 := bx_new (w := wr) [.int .i64 X, .int .i64 Y, .int .i64 Z] 69 rfl
          have z0 := b3.c0
          have z1 := b3.c1
          have z2 := b3.c2
          have b4 := b2.on hbt
          have v0 := b4.c0
          have v1 := b4.c1
          have hBt := stepA hB hbt
          have hBu := stepA hBr hbt
          clear hbt b3 b4
          cases P0 with
          | false =>
            have hq2 : Q = false := HQ.out rfl
            clear HQ HS2 HT2
            subst hq2
            go_wp2_with fail
            refine (kN0 _).mono ?_
            rintro e w3 ⟨rfl, hw3⟩
            have hs3 := hw3.symm
            clear hw3
            subst hs3
            go_wp2
            go_ret
            exact ⟨rfl, hBu⟩
          | true =>
            cases P2 with
            | false =>
              have hq2 : Q = false := HQ.out rfl
              clear HQ HS2 HT2
              subst hq2
              go_wp2_with fail
              refine (kN0 _).mono ?_
              rintro e w3 ⟨rfl, hw3⟩
              have hs3 := hw3.symm
              clear hw3
              subst hs3
              go_wp2_with fail
              refine (kN2 _).mono ?_
              rintro e w3 ⟨rfl, hw3⟩
              have hs3 := hw3.symm
              clear hw3
              subst hs3
              go_wp2
              go_ret
              exact ⟨rfl, hBu⟩
            | true =>
              cases P1 with
              | false =>
                have hq2 : Q = false := HQ.out rfl
                clear HQ HS2 HT2
                subst hq2
                go_wp2_with fail
                refine (kN0 _).mono ?_
                rintro e w3 ⟨rfl, hw3⟩
                have hs3 := hw3.symm
                clear hw3
                subst hs3
                go_wp2_with fail
                refine (kN2 _).mono ?_
                rintro e w3 ⟨rfl, hw3⟩
                have hs3 := hw3.symm
                clear hw3
                subst hs3
                go_wp2_with fail
                refine (kE1 _).mono ?_
                rintro e w3 ⟨rfl, hw3⟩
                have hs3 := hw3.symm
                clear hw3
                subst hs3
                go_wp2
                go_ret
                exact ⟨rfl, hBu⟩
              | true =>
                have HS3 : Hid (∀ j, j < q + 1 → arwB k g j = true) := HS2.out rfl
                clear HQ HS2 HT2
                go_wp2_with fail
                refine (kN0 _).mono ?_
                rintro e w3 ⟨rfl, hw3⟩
                have hs3 := hw3.symm
                clear hw3
                subst hs3
                go_wp2_with fail
                refine (kN2 _).mono ?_
                rintro e w3 ⟨rfl, hw3⟩
                have hs3 := hw3.symm
                clear hw3
                subst hs3
                go_wp2_with fail
                refine (kE1 _).mono ?_
                rintro e w3 ⟨rfl, hw3⟩
                have hs3 := hw3.symm
                clear hw3
                subst hs3
                go_wp2
                exact ⟨⟨q + 1, by omega, by go_num, HS3, hBt⟩, by simp [intOf]; omega⟩
        · have hqm : q = m := by omega
          subst hqm
          have hQ : Q = true := HT2.out HS.out
          clear HS HT2 HA kN kE
          subst hQ
          go_wp2
          go_ret
          exact ⟨rfl, hBr⟩
end Go.Proofs.YtjefakfongehdaaR
