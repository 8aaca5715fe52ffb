/- Which trees are good, as the model says it. -/
import Derived.Test.YtjefakfongehdabRRTrM
import Derived.Test.YtjefakfongehdabRRLqBase
import Derived.Test.YtjefakfongehdabRRChThree
namespace Go.Proofs.YtjefakfongehdabRR
open Go.RowKit
set_option maxRecDepth 20000 in
set_option maxHeartbeats 16000000 in
theorem sGoodTree (a : Option Addr) (m c : Nat) (g : Nat → Int) (w : World) (hm : m ≤ 1048576) (hg : IL w a (m * 3) g) :
    Calls Try.prog 24 #[.slice a m c] w fun e w' => e = .returned (.bool (gtrB m g)) ∧ Below w.heap.size w w' := by
  by_cases h1 : m < 1
  · rw [gtrB_sizes (.inl h1)]
    have j1 : (m : Int) < 1 := by omega
    go_enter Try.func24, Try.ntmps24
    go_wp2
    go_ret
    exact ⟨rfl, Below.refl _ _⟩
  have j1 : ¬ (m : Int) < 1 := by omega
  by_cases h2 : 24 < m
  · rw [gtrB_sizes (.inr h2)]
    have j2 : (24 : Int) < (m : Int) := by omega
    go_enter Try.func24, Try.ntmps24
    go_wp2
    go_ret
    exact ⟨rfl, Below.refl _ _⟩
  have j2 : ¬ (24 : Int) < (m : Int) := by omega
  have HT : Hid ((∀ k, k < m → sNd m g k = true) → opn g m = 0 → gtrB m g = true) := fun h h' => gtrB_mk (by omega) (by omega) h h'
  have HF : Hid (∀ k, k < m → sNd m g k = false → gtrB m g = false) := fun k hk h => gtrB_node hk h
  have HE : Hid (¬ opn g m = 0 → gtrB m g = false) := fun h => gtrB_end h
  generalize gtrB m g = Q at *
  go_enter Try.func24, Try.ntmps24
  go_wp2
  go_loopw [3, 17] (fun v i wr => ∃ (k : Nat) (O : Int), k ≤ m ∧ i = .int .i64 (k : Int) ∧ v = .int .i64 O ∧ Hid (O = opn g k) ∧ Hid (∀ j, j < k → sNd m g j = true) ∧ Below w.heap.size w wr) (fun _ i _ => m - (intOf i).toNat)
  case atStart => exact ⟨0, 1, Nat.zero_le _, rfl, rfl, (rfl : (1 : Int) = opn g 0), fun j hj => absurd hj (Nat.not_lt_zero _), Below.refl _ _⟩
  case round =>
    obtain ⟨k, O, hk, rfl, rfl, HO, HS, hB⟩ := hrel
    have hO1 : 1 - (k : Int) ≤ O := by rw [HO.out]; exact (opn_ge k fun j hj => (sNd_parts (HS.out j hj)).2.1).1
    have hO2 : O ≤ 1 + 24 * (k : Int) := by rw [HO.out]; exact opn_le k fun j hj => by have := (sNd_parts (HS.out j hj)).2.2.1; omega
    by_cases hlt : k < m
    · obtain ⟨gb, go_, rfl, gl_, y0, y1, y2⟩ := il_three (hg.below hB) hlt
      have j0 : (0 : Int) ≤ (k : Int) := by omega
      have j5 : (k : Int) < (m : Int) := by omega
      have HF2 : Hid (O = 0 ∨ g (k * 3 + 1) < 0 ∨ (m : Int) < g (k * 3 + 1) → Q = false) := fun h => HF.out k hlt (by
        cases e : sNd m g k with
        | false => rfl
        | true => have h9 := sNd_parts e; rw [← HO.out] at h9; omega)
      have HI2 : Hid (okN (g (k * 3)) (g (k * 3 + 1)) (g (k * 3 + 2)) = false → Q = false) := fun h => HF.out k hlt (by unfold sNd; simp [h])
      have HS2 : Hid (¬ O = 0 → 0 ≤ g (k * 3 + 1) → g (k * 3 + 1) ≤ (m : Int) → okN (g (k * 3)) (g (k * 3 + 1)) (g (k * 3 + 2)) = true → ∀ j, j < k + 1 → sNd m g j = true) := fun h h' h'' h3 j hj => by
        by_cases e : j = k
        · subst e; exact sNd_mk (HO.out ▸ h) h' h'' h3
        · exact HS.out j (by omega)
      have HO2 : Hid (O + (g (k * 3 + 1) - 1) = opn g (k + 1)) := by
        show O + (g (k * 3 + 1) - 1) = opn g k + (g (k * 3 + 1) - 1)
        rw [HO.out]
      clear HO HS HT HF HE
      generalize g (k * 3) = X at *
      generalize g (k * 3 + 1) = Y at *
      generalize g (k * 3 + 2) = Z at *
      have hbt : Below wr.heap.size wr (wr.alloc (.cells #[.int .i64 X, .int .i64 Y, .int .i64 Z] 72)) := (Below.refl _ _).alloc (Nat.le_refl _) _
      have b3 := bx_new (w := wr) [.int .i64 X, .int .i64 Y, .int .i64 Z] 72 rfl
      have z0 := b3.c0
      have z1 := b3.c1
      have z2 := b3.c2
      have hBt := stepA hB hbt
      clear hbt b3
      by_cases h0 : O = 0
      · have hq : Q = false := HF2.out (.inl h0)
        have h0' : (O == 0) = true := by simpa using h0
        subst hq
        clear HF2 HI2 HS2 HO2 h0
        go_wp2
        go_ret
        exact ⟨rfl, hBt⟩
      have h0' : (O == 0) = false := by simpa using h0
      by_cases h3 : Y < 0
      · have hq : Q = false := HF2.out (.inr (.inl h3))
        subst hq
        clear HF2 HI2 HS2 HO2 h0
        go_wp2
        go_ret
        exact ⟨rfl, hBt⟩
      by_cases h4 : (m : Int) < Y
      · have hq : Q = false := HF2.out (.inr (.inr h4))
        subst hq
        clear HF2 HI2 HS2 HO2 h0
        go_wp2
        go_ret
        exact ⟨rfl, hBt⟩
      have HS2' := HS2.out h0 (by omega) (by omega)
      have HS4 : Hid (okN X Y Z = true → ∀ j, j < k + 1 → sNd m g j = true) := HS2'
      clear HF2 HS2 HS2' h0
      have HS2 := HS4
      clear HS4
      by_cases x1 : X = 1
      · subst x1
        by_cases y3 : 1 ≤ Y
        · by_cases hz : Z = 0
          · subst hz
            have HS3 : Hid (∀ j, j < k + 1 → sNd m g j = true) := HS2.out (by unfold okN; simp <;> omega)
            clear HI2 HS2
            go_wp2
            exact ⟨⟨k + 1, _, by omega, by go_num, rfl, (by have h9 := HO2.out; unfold Hid; first | exact h9 | omega), HS3, hBt⟩, by simp [intOf]; omega⟩
          · have hz' : (Z == 0) = false := by simpa using hz
            have hq : Q = false := HI2.out (by unfold okN; simp <;> omega)
            subst hq
            clear HI2 HS2 HO2
            go_wp2
            go_ret
            exact ⟨rfl, hBt⟩
        · have hq : Q = false := HI2.out (by unfold okN; simp <;> omega)
          subst hq
          clear HI2 HS2 HO2
          go_wp2
          go_ret
          exact ⟨rfl, hBt⟩
      · have x1' : (X == 1) = false := by simpa using x1
        by_cases x2 : X = 2
        · subst x2
          by_cases y3 : 1 ≤ Y
          · by_cases hz : Z = 0
            · subst hz
              have HS3 : Hid (∀ j, j < k + 1 → sNd m g j = true) := HS2.out (by unfold okN; simp <;> omega)
              clear HI2 HS2
              go_wp2
              exact ⟨⟨k + 1, _, by omega, by go_num, rfl, (by have h9 := HO2.out; unfold Hid; first | exact h9 | omega), HS3, hBt⟩, by simp [intOf]; omega⟩
            · have hz' : (Z == 0) = false := by simpa using hz
              have hq : Q = false := HI2.out (by unfold okN; simp <;> omega)
              subst hq
              clear HI2 HS2 HO2
              go_wp2
              go_ret
              exact ⟨rfl, hBt⟩
          · have hq : Q = false := HI2.out (by unfold okN; simp <;> omega)
            subst hq
            clear HI2 HS2 HO2
            go_wp2
            go_ret
            exact ⟨rfl, hBt⟩
        · have x2' : (X == 2) = false := by simpa using x2
          by_cases x4 : X = 4
          · subst x4
            by_cases y3 : 1 ≤ Y
            · by_cases hz : Z = 0
              · subst hz
                have HS3 : Hid (∀ j, j < k + 1 → sNd m g j = true) := HS2.out (by unfold okN; simp <;> omega)
                clear HI2 HS2
                go_wp2
                exact ⟨⟨k + 1, _, by omega, by go_num, rfl, (by have h9 := HO2.out; unfold Hid; first | exact h9 | omega), HS3, hBt⟩, by simp [intOf]; omega⟩
              · have hz' : (Z == 0) = false := by simpa using hz
                have hq : Q = false := HI2.out (by unfold okN; simp <;> omega)
                subst hq
                clear HI2 HS2 HO2
                go_wp2
                go_ret
                exact ⟨rfl, hBt⟩
            · have hq : Q = false := HI2.out (by unfold okN; simp <;> omega)
              subst hq
              clear HI2 HS2 HO2
              go_wp2
              go_ret
              exact ⟨rfl, hBt⟩
          · have x4' : (X == 4) = false := by simpa using x4
            by_cases x3 : X = 3
            · subst x3
              by_cases y3 : Y = 1
              · subst y3
                by_cases hz : Z = 0
                · subst hz
                  have HS3 : Hid (∀ j, j < k + 1 → sNd m g j = true) := HS2.out (by unfold okN; simp <;> omega)
                  clear HI2 HS2
                  go_wp2
                  exact ⟨⟨k + 1, _, by omega, by go_num, rfl, (by have h9 := HO2.out; unfold Hid; first | exact h9 | omega), HS3, hBt⟩, by simp [intOf]; omega⟩
                · have hz' : (Z == 0) = false := by simpa using hz
                  have hq : Q = false := HI2.out (by unfold okN; simp <;> omega)
                  subst hq
                  clear HI2 HS2 HO2
                  go_wp2
                  go_ret
                  exact ⟨rfl, hBt⟩
              · have y3' : (Y == 1) = false := by simpa using y3
                have hq : Q = false := HI2.out (by unfold okN; simp <;> omega)
                subst hq
                clear HI2 HS2 HO2
                go_wp2
                go_ret
                exact ⟨rfl, hBt⟩
            · have x3' : (X == 3) = false := by simpa using x3
              by_cases x5 : X = 5
              · subst x5
                by_cases y3 : Y = 0
                · subst y3
                  by_cases z3 : 0 ≤ Z
                  · by_cases z4 : Z ≤ 9
                    · have HS3 : Hid (∀ j, j < k + 1 → sNd m g j = true) := HS2.out (by unfold okN; simp <;> omega)
                      clear HI2 HS2
                      go_wp2
                      exact ⟨⟨k + 1, _, by omega, by go_num, rfl, (by have h9 := HO2.out; unfold Hid; first | exact h9 | omega), HS3, hBt⟩, by simp [intOf]; omega⟩
                    · have hq : Q = false := HI2.out (by unfold okN; simp <;> omega)
                      subst hq
                      clear HI2 HS2 HO2
                      go_wp2
                      go_ret
                      exact ⟨rfl, hBt⟩
                  · have hq : Q = false := HI2.out (by unfold okN; simp <;> omega)
                    subst hq
                    clear HI2 HS2 HO2
                    go_wp2
                    go_ret
                    exact ⟨rfl, hBt⟩
                · have y3' : (Y == 0) = false := by simpa using y3
                  have hq : Q = false := HI2.out (by unfold okN; simp <;> omega)
                  subst hq
                  clear HI2 HS2 HO2
                  go_wp2
                  go_ret
                  exact ⟨rfl, hBt⟩
              · have x5' : (X == 5) = false := by simpa using x5
                have hq : Q = false := HI2.out (by unfold okN; rw [if_neg (by omega), if_neg (by omega), if_neg (by omega)])
                subst hq
                clear HI2 HS2 HO2
                go_wp2
                go_ret
                exact ⟨rfl, hBt⟩
    · have hkm : k = m := by omega
      subst hkm
      have HT2 : Hid (O = 0 → Q = true) := fun h => HT.out HS.out (HO.out.symm.trans h)
      have HE2 : Hid (¬ O = 0 → Q = false) := fun h => HE.out fun h' => h (HO.out.trans h')
      clear HT HF HE HS
      by_cases h0 : O = 0
      · have hq : Q = true := HT2.out h0
        have h0' : (O == 0) = true := by simpa using h0
        subst hq
        clear HT2 HE2 h0 HO
        go_wp2
        go_ret
        exact ⟨rfl, hB⟩
      · have hq : Q = false := HE2.out h0
        have h0' : (O == 0) = false := by simpa using h0
        subst hq
        clear HT2 HE2 h0 HO
        go_wp2
        go_ret
        exact ⟨rfl, hB⟩
end Go.Proofs.YtjefakfongehdabRR
