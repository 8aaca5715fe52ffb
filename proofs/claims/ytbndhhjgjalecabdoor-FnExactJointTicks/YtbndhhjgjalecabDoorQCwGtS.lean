/- Which trips are good, as the model says it. -/
import Derived.Test.YtbndhhjgjalecabDoorQCwGtM
import Derived.Test.YtbndhhjgjalecabDoorQClSFree
namespace Go.Proofs.YtbndhhjgjalecabDoor
open Go.RowKit

set_option maxRecDepth 20000 in
set_option maxHeartbeats 4000000 in
theorem sGoodTrips (W : Int) (a b : Option Addr) (n c m d : Nat) (f g : Nat → Int) (w : World) (hn : n ≤ 1048576) (hm : m ≤ 1048576) (hf : IL w a n f) (hg : IL w b (m * 2) g) :
    Calls Tryd.prog 11 #[cel W a n c, .slice b m d] w fun e w' => e = .returned (.bool (gtB W n f m g)) ∧ Below w.heap.size w w' := by
  have hb0 : Below w.heap.size w (w.alloc (celO W a n c 29)) := (Below.refl _ _).alloc (Nat.le_refl _) _
  have hG := specGoodL W a n c f (w.alloc (celO W a n c 29)) hn (hf.alloc _)
  have b0 := bx_new (w := w) (celL W a n c) 29 rfl
  cases hs : celB W n f with
  | false =>
    have hr : gtB W n f m g = false := by simp [gtB, hs]
    rw [hr]
    rw [hs] at hG
    go_enter Tryd.func11, Tryd.ntmps11
    go_wp2_with fail
    refine hG.mono ?_
    rintro e w1 ⟨rfl, hb1⟩
    have hB1 := stepA hb0 hb1
    clear hG hf hg b0 hb0 hb1
    go_wp2
    go_ret
    exact ⟨rfl, hB1⟩
  | true =>
    rw [hs] at hG
    by_cases h5 : m ≤ 5
    · have h5' : ¬ (5 : Int) < (m : Int) := by omega
      have hR0 : gtB W n f m g = trB n f g m := by simp [gtB, hs, h5]
      have HR : Hid (gtB W n f m g = trB n f g m) := hR0
      clear hR0
      go_enter Tryd.func11, Tryd.ntmps11
      go_wp2_with fail
      refine hG.mono ?_
      rintro e w1 ⟨rfl, hb1⟩
      have hB1 := stepA hb0 hb1
      have b1 := b0.on hb1
      have hf1 := hf.below hB1
      have hg1 := hg.below hB1
      clear hG hf hg b0 hb0 hb1 hs
      go_wp2
      go_loopw [18] (fun i wr => ∃ k : Nat, k ≤ m ∧ i = .int .i64 k ∧ trB n f g k = true ∧ Below w1.heap.size w1 wr) (fun i _ => m - (intOf i).toNat)
      case atStart => exact ⟨0, Nat.zero_le _, rfl, rfl, Below.refl _ _⟩
      case round =>
        obtain ⟨k, hk, rfl, hT, hB⟩ := hrel
        by_cases hlt : k < m
        · have hBw := stepA hB1 hB
          have b2 := b1.on hB
          have hf2 := hf1.below hB
          have hg2 := hg1.below hB
          obtain ⟨gb, go_, rfl, gl_, y0, y1⟩ := il_two hg2 hlt
          have j0 : (0 : Int) ≤ (k : Int) := by omega
          have j1 : (k : Int) < (m : Int) := by omega
          have x0 := b2.c0
          have x1 := b2.c1
          have hbt : Below wr.heap.size wr (wr.alloc (.cells #[.int .i64 (g (k * 2)), .int .i64 (g (k * 2 + 1))] 31)) := (Below.refl _ _).alloc (Nat.le_refl _) _
          have b3 := bx_new (w := wr) [.int .i64 (g (k * 2)), .int .i64 (g (k * 2 + 1))] 31 rfl
          have b4 := b2.on hbt
          have hf3 := hf2.below hbt
          have hB3 := stepA hBw hbt
          have kF := sfree_any W a n c f (g (k * 2)) (wr.alloc (.cells #[.int .i64 (g (k * 2)), .int .i64 (g (k * 2 + 1))] 31)) hf3 hn
          have Hfa := @gtB_false W n f m g k hlt
          have HFA : Hid (¬ (frB n f (g (k * 2)) = true ∧ frB n f (g (k * 2 + 1)) = true ∧ apB g k k = true) → gtB W n f m g = false) := Hfa
          clear Hfa
          cases q0 : frB n f (g (k * 2)) with
          | false =>
            have hr := HFA.out (by rw [q0]; simp)
            rw [q0] at kF
            have z0 := b4.c0
            have z1 := b4.c1
            have z2 := b3.c0
            have z3 := b3.c1
            go_wp2_with fail
            refine kF.mono ?_
            rintro e w4 ⟨rfl, hb4⟩
            have hB4 := stepA hB3 hb4
            clear kF
            go_wp2
            go_ret
            exact ⟨ret_bool hr.symm, hB4⟩
          | true =>
            rw [q0] at kF
            have z0 := b4.c0
            have z1 := b4.c1
            have z2 := b3.c0
            have z3 := b3.c1
            go_wp2_with fail
            refine kF.mono ?_
            rintro e w4 ⟨rfl, hb4⟩
            have hB4 := stepA hB3 hb4
            have b5 := b4.on hb4
            have b6 := b3.on hb4
            have hf4 := hf3.below hb4
            have kG := sfree_any W a n c f (g (k * 2 + 1)) w4 hf4 hn
            clear kF x0 x1 z0 z1 z2 z3
            have z0 := b5.c0
            have z1 := b5.c1
            have z2 := b6.c0
            have z3 := b6.c1
            cases q1 : frB n f (g (k * 2 + 1)) with
            | false =>
              have hr := HFA.out (by rw [q1]; simp)
              rw [q1] at kG
              go_wp2_with fail
              refine kG.mono ?_
              rintro e w5 ⟨rfl, hb5⟩
              have hB5 := stepA hB4 hb5
              clear kG
              go_wp2
              go_ret
              exact ⟨ret_bool hr.symm, hB5⟩
            | true =>
              rw [q1] at kG
              go_wp2_with fail
              refine kG.mono ?_
              rintro e w5 ⟨rfl, hb5⟩
              have hB5 := stepA hB4 hb5
              have b7 := b6.on hb5
              have hg5 := ((hg2.below hbt).below hb4).below hb5
              have hstep : Below w1.heap.size w1 w5 := ((hB.trans (hbt.mono hB.size)).trans (hb4.mono (Nat.le_trans hB.size hbt.size))).trans (hb5.mono (Nat.le_trans hB.size (Nat.le_trans hbt.size hb4.size)))
              clear kG hf4 b5 b6 b4 b3 hf3 hf2 hB4 hB3 hBw hbt hb4 hb5 z0 z1 z2 z3 y0 y1 hg2 b2 hB
              obtain ⟨w8, hw8⟩ : ∃ w8, w8 = wr := ⟨wr, rfl⟩
              subst hw8
              go_wp2
              go_loopw [7] (fun i wx => ∃ j : Nat, j ≤ k ∧ i = .int .i64 j ∧ apB g k j = true ∧ Below w5.heap.size w5 wx) (fun i _ => k - (intOf i).toNat)
              case atStart => exact ⟨0, Nat.zero_le _, rfl, rfl, Below.refl _ _⟩
              case round =>
                obtain ⟨j, hj, rfl, hA, hBx⟩ := hrel
                by_cases hlt2 : j < k
                · obtain ⟨gb', go', e', -, y0, y1⟩ := il_two (hg5.below hBx) (show j < m by omega)
                  cases e'
                  have b8 := b7.on hBx
                  have z2 := b8.c0
                  have z3 := b8.c1
                  have i0 : (0 : Int) ≤ (j : Int) := by omega
                  have i1 : (j : Int) < (k : Int) := by omega
                  have i2 : (j : Int) < (m : Int) := by omega
                  have HAF : Hid (g (j * 2) = g (k * 2) ∨ g (j * 2 + 1) = g (k * 2 + 1) → gtB W n f m g = false) := fun h => HFA.out fun h' => apB_false hlt2 h h'.2.2
                  have HAN : Hid (apB g k (j + 1) = (apB g k j && !(g (j * 2) == g (k * 2) || g (j * 2 + 1) == g (k * 2 + 1)))) := rfl
                  generalize g (j * 2) = A at *
                  generalize g (j * 2 + 1) = B at *
                  generalize g (k * 2) = C at *
                  generalize g (k * 2 + 1) = D at *
                  cases r0 : (A == C) with
                  | true =>
                    have hr := HAF.out (.inl (by simpa using r0))
                    clear hg5 b7 b8 HAF HAN HFA hf1 hg1 b1
                    go_wp2
                    go_quiet (fail)
                    go_wp2
                    go_ret
                    exact ⟨ret_bool hr.symm, hB5.trans ((below_dr hBx _).mono hB5.size)⟩
                  | false =>
                    cases r1 : (B == D) with
                    | true =>
                      have hr := HAF.out (.inr (by simpa using r1))
                      clear hg5 b7 b8 HAF HAN HFA hf1 hg1 b1
                      go_wp2
                      go_quiet (fail)
                      go_wp2
                      go_ret
                      exact ⟨ret_bool hr.symm, hB5.trans ((below_dr hBx _).mono hB5.size)⟩
                    | false =>
                      have hr : apB g k (j + 1) = true := by rw [HAN.out, hA, r0, r1]; rfl
                      have HAp : Hid (apB g k (j + 1) = true) := hr
                      clear hg5 b7 b8 HAF HAN HFA hf1 hg1 b1 hr
                      go_wp2
                      go_quiet (fail)
                      go_wp2
                      exact ⟨⟨j + 1, by omega, by go_num, HAp.out, below_dr hBx _⟩, by simp [intOf]; omega⟩
                · have hjk : j = k := by omega
                  subst hjk
                  have hTT : trB n f g (j + 1) = true := by simp [trB, hT, q0, q1, hA]
                  have HTT : Hid (trB n f g (j + 1) = true) := hTT
                  clear hTT hg5 b7 HFA hf1 hg1 b1
                  go_wp2
                  exact ⟨⟨j + 1, by omega, by go_num, HTT.out, hstep.trans (hBx.mono hstep.size)⟩, by simp [intOf]; omega⟩
        · have hke : k = m := by omega
          subst hke
          have hr : gtB W n f k g = true := by rw [HR.out]; exact hT
          clear hf1 hg1 b1
          go_wp2
          go_ret
          exact ⟨ret_bool hr.symm, stepA hB1 hB⟩
    · have h5' : (5 : Int) < (m : Int) := by omega
      have hr : gtB W n f m g = false := by simp [gtB, h5]
      rw [hr]
      go_enter Tryd.func11, Tryd.ntmps11
      go_wp2_with fail
      refine hG.mono ?_
      rintro e w1 ⟨rfl, hb1⟩
      have hB1 := stepA hb0 hb1
      clear hG hf hg b0 hb0 hb1
      go_wp2
      go_ret
      exact ⟨rfl, hB1⟩
end Go.Proofs.YtbndhhjgjalecabDoor
