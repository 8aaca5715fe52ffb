/- Which trees are good, as the program tells it. -/
import Derived.Test.YtjefakfongehdabRRTrNdI
import Derived.Test.YtjefakfongehdabRRChThree
namespace Go.Proofs.YtjefakfongehdabRR
open Go.RowKit
set_option maxRecDepth 20000 in
set_option maxHeartbeats 4000000 in
theorem iGoodTree (a : Option Addr) (m c : Nat) (g : Nat → Int) (w : World) (hm : m ≤ 1048576) (hg : IL w a (m * 3) g) :
    Calls Try.prog 26 #[.slice a m c] w fun e w' => e = .returned (.bool (gtrB m g)) ∧ Below w.heap.size w w' := by
  by_cases h2 : 24 < m
  · rw [gtrB_sizes (.inr h2)]
    have j2 : (24 : Int) < (m : Int) := by omega
    go_enter Try.func26, Try.ntmps26
    go_wp2
    go_ret
    exact ⟨rfl, Below.refl _ _⟩
  have j2 : ¬ (24 : Int) < (m : Int) := by omega
  have HT : Hid ((∀ k, k < m → opn g k ≠ 0 ∧ iNd (g (k * 3)) (g (k * 3 + 1)) (g (k * 3 + 2)) = true) → opn g m = 0 → gtrB m g = true) := fun h h' => gtrB_iend (by omega) h h'
  have HF : Hid (∀ k, k < m → opn g k = 0 → gtrB m g = false) := fun k hk h => gtrB_node hk (by unfold sNd; simp [h])
  have HI : Hid (∀ k, k < m → iNd (g (k * 3)) (g (k * 3 + 1)) (g (k * 3 + 2)) = false → gtrB m g = false) := fun k hk h => gtrB_inode hk h
  have HE : Hid (¬ opn g m = 0 → gtrB m g = false) := fun h => gtrB_end h
  generalize gtrB m g = Q at *
  have kN := fun X Y Z w => iNode X Y Z w
  go_enter Try.func26, Try.ntmps26
  go_wp2
  go_loopw [3, 11] (fun v i wr => ∃ (k : Nat) (O : Int), k ≤ m ∧ i = .int .i64 (k : Int) ∧ v = .int .i64 O ∧ Hid (O = opn g k) ∧ Hid (∀ j, j < k → opn g j ≠ 0 ∧ iNd (g (j * 3)) (g (j * 3 + 1)) (g (j * 3 + 2)) = true) ∧ Below w.heap.size w wr) (fun _ i _ => m - (intOf i).toNat)
  case atStart => exact ⟨0, 1, Nat.zero_le _, rfl, rfl, (rfl : (1 : Int) = opn g 0), fun j hj => absurd hj (Nat.not_lt_zero _), Below.refl _ _⟩
  case round =>
    obtain ⟨k, O, hk, rfl, rfl, HO, HS, hB⟩ := hrel
    have hO1 : 1 - (k : Int) ≤ O := by rw [HO.out]; exact (opn_ge k fun j hj => (iNd_ok (HS.out j hj).2).2.1).1
    have hO2 : O ≤ 1 + 24 * (k : Int) := by rw [HO.out]; exact opn_le k fun j hj => by have := (iNd_ok (HS.out j hj).2).2.2; omega
    by_cases hlt : k < m
    · obtain ⟨gb, go_, rfl, gl_, y0, y1, y2⟩ := il_three (hg.below hB) hlt
      have j0 : (0 : Int) ≤ (k : Int) := by omega
      have j1 : (k : Int) < (m : Int) := by omega
      have HF2 : Hid (O = 0 → Q = false) := fun h => HF.out k hlt (HO.out.symm.trans h)
      have HI2 : Hid (iNd (g (k * 3)) (g (k * 3 + 1)) (g (k * 3 + 2)) = false → Q = false) := HI.out k hlt
      have HS2 : Hid (¬ O = 0 → iNd (g (k * 3)) (g (k * 3 + 1)) (g (k * 3 + 2)) = true → ∀ j, j < k + 1 → opn g j ≠ 0 ∧ iNd (g (j * 3)) (g (j * 3 + 1)) (g (j * 3 + 2)) = true) := fun h h' j hj => by
        by_cases e : j = k
        · subst e; exact ⟨HO.out ▸ h, h'⟩
        · exact HS.out j (by omega)
      have HO2 : Hid (O + (g (k * 3 + 1) - 1) = opn g (k + 1)) := by
        show O + (g (k * 3 + 1) - 1) = opn g k + (g (k * 3 + 1) - 1)
        rw [HO.out]
      have HY : Hid (iNd (g (k * 3)) (g (k * 3 + 1)) (g (k * 3 + 2)) = true → 0 ≤ g (k * 3 + 1) ∧ g (k * 3 + 1) < 24) := fun h => (iNd_ok h).2
      have kN2 := fun w => kN (g (k * 3)) (g (k * 3 + 1)) (g (k * 3 + 2)) w
      clear kN HO HS HT HF HI HE
      generalize iNd (g (k * 3)) (g (k * 3 + 1)) (g (k * 3 + 2)) = P at *
      generalize g (k * 3) = X at *
      generalize g (k * 3 + 1) = Y at *
      generalize g (k * 3 + 2) = Z at *
      have hbt : Below wr.heap.size wr (wr.alloc (.cells #[.int .i64 X, .int .i64 Y, .int .i64 Z] 72)) := (Below.refl _ _).alloc (Nat.le_refl _) _
      have b3 := bx_new (w := wr) [.int .i64 X, .int .i64 Y, .int .i64 Z] 72 rfl
      have z0 := b3.c0
      have z1 := b3.c1
      have z2 := b3.c2
      have hBt := stepA hB hbt
      clear hbt
      by_cases h0 : O = 0
      · have hq : Q = false := HF2.out h0
        have h0' : (O == 0) = true := by simpa using h0
        subst hq
        clear HF2 HI2 HS2 HO2 HY kN2 h0 b3
        go_wp2
        go_ret
        exact ⟨rfl, hBt⟩
      · have h0' : (O == 0) = false := by simpa using h0
        cases P with
        | false =>
          have hq : Q = false := HI2.out rfl
          subst hq
          clear HF2 HI2 HS2 HO2 HY h0
          go_wp2_with fail
          refine (kN2 _).mono ?_
          rintro e w3 ⟨rfl, hb3⟩
          have hB3 := stepA hBt hb3
          clear kN2 z0 z1 z2
          go_wp2
          go_ret
          exact ⟨rfl, hB3⟩
        | true =>
          have HS3 : Hid (∀ j, j < k + 1 → opn g j ≠ 0 ∧ iNd (g (j * 3)) (g (j * 3 + 1)) (g (j * 3 + 2)) = true) := HS2.out h0 rfl
          have hY := HY.out rfl
          have hY0 := hY.1
          have hY1 := hY.2
          clear HF2 HI2 HS2 HY h0 hY
          go_wp2_with fail
          refine (kN2 _).mono ?_
          rintro e w3 ⟨rfl, hb3⟩
          have hB3 := stepA hBt hb3
          have b4 := b3.on hb3
          clear kN2 z0 z1 z2
          have z1 := b4.c1
          go_wp2
          exact ⟨⟨k + 1, _, by omega, by go_num, rfl, HO2, HS3, hB3⟩, by simp [intOf]; omega⟩
    · have hkm : k = m := by omega
      subst hkm
      have HT2 : Hid (O = 0 → Q = true) := fun h => HT.out HS.out (HO.out.symm.trans h)
      have HE2 : Hid (¬ O = 0 → Q = false) := fun h => HE.out fun h' => h (HO.out.trans h')
      clear HT HF HI HE HS kN
      by_cases h0 : O = 0
      · have hq : Q = true := HT2.out h0
        have h0' : (O == 0) = true := by simpa using h0
        subst hq
        clear HT2 HE2 h0 HO
        go_wp2
        go_ret
        exact ⟨rfl, hB⟩
      · have hq : Q = false := HE2.out h0
        have h0' : (O == 0) = false := by simpa using h0
        subst hq
        clear HT2 HE2 h0 HO
        go_wp2
        go_ret
        exact ⟨rfl, hB⟩
end Go.Proofs.YtjefakfongehdabRR
