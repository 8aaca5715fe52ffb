/- Which worlds are good, as both sides say it. -/
import Derived.Test.YtgfmeineialcgaaWgM
namespace Go.Proofs.Ytgfmeineialcgaa
open Go.RowKit
set_option maxHeartbeats 400000 in
theorem sSeed (d : Int) (w : World) : Calls Try.prog 12 #[.int .i64 d] w fun e w' => e = .returned (.bool (sdB d)) ∧ w' = w := by
  by_cases h0 : 0 ≤ d
  · by_cases h1 : d ≤ 2147483647
    · rw [show sdB d = true by simp [sdB, h0, h1]]
      go_enter Try.func12, Try.ntmps12
      go_wp2
      go_ret
      exact ⟨rfl, rfl⟩
    · rw [show sdB d = false by simp [sdB]; omega]
      go_enter Try.func12, Try.ntmps12
      go_wp2
      go_ret
      exact ⟨rfl, rfl⟩
  · rw [show sdB d = false by simp [sdB]; omega]
    go_enter Try.func12, Try.ntmps12
    go_wp2
    go_ret
    exact ⟨rfl, rfl⟩
set_option maxHeartbeats 400000 in
theorem iSeed (d : Int) (w : World) : Calls Try.prog 16 #[.int .i64 d] w fun e w' => e = .returned (.bool (sdB d)) ∧ w' = w := by
  by_cases h0 : 0 ≤ d
  · by_cases h1 : d ≤ 2147483647
    · rw [show sdB d = true by simp [sdB, h0, h1]]
      go_enter Try.func16, Try.ntmps16
      go_wp2
      go_ret
      exact ⟨rfl, rfl⟩
    · rw [show sdB d = false by simp [sdB]; omega]
      go_enter Try.func16, Try.ntmps16
      go_wp2
      go_ret
      exact ⟨rfl, rfl⟩
  · rw [show sdB d = false by simp [sdB]; omega]
    go_enter Try.func16, Try.ntmps16
    go_wp2
    go_ret
    exact ⟨rfl, rfl⟩
set_option maxHeartbeats 2000000 in
theorem sGoodW (W : Int) (a : Option Addr) (n c : Nat) (t s d : Int) (f : Nat → Int) (w : World) (hn : n ≤ 1048576) (hf : IL w a n f) :
    Calls Try.prog 5 #[wvl W a n c t s d] w fun e w' => e = .returned (.bool (wgB W n f t s d)) ∧ Below w.heap.size w w' := by
  have bP := bx_new (w := w) (b := w.heap.size) (wvL W a n c t s d) 31 rfl
  have hb0 : Below w.heap.size w (w.alloc (wvO W a n c t s d 31)) := (Below.refl _ _).alloc (Nat.le_refl _) _
  have hf0 := hf.alloc (wvO W a n c t s d 31)
  have kC := specGoodL W a n c f _ hn hf0
  have kD := fun w => sSeed d w
  cases e0 : celB W n f with
  | false =>
    have HV : Hid (wgB W n f t s d = false) := by show wgB W n f t s d = false; unfold wgB; rw [e0]; rfl
    rw [e0] at kC
    clear e0
    go_enter Try.func5, Try.ntmps5
    go_wp2_with fail
    refine kC.mono ?_
    rintro e w1 ⟨rfl, hb1⟩
    have hB1 := stepA hb0 hb1
    have b1 := bP.on hb1
    have x0 := b1.c0
    have x1 := b1.c1
    have x2 := b1.c2
    have x3 := b1.c3
    have x4 := b1.c4
    clear kC kD hb0 hb1 b1 bP
    go_wp2
    go_ret
    exact ⟨ret_bool HV.out.symm, hB1⟩
  | true =>
    have HV : Hid (wgB W n f t s d = (frB n f t && decide (0 ≤ s ∧ s ≤ 9) && sdB d)) := by show wgB W n f t s d = _; unfold wgB; rw [e0]; rfl
    rw [e0] at kC
    clear e0
    have kF := fun w hw => sfree_any W a n c f t w hw hn
    cases e1 : frB n f t with
    | false =>
      have HV2 : Hid (wgB W n f t s d = false) := by show wgB W n f t s d = false; rw [HV.out, e1]; rfl
      rw [e1] at kF
      clear e1 HV
      go_enter Try.func5, Try.ntmps5
      go_wp2_with fail
      refine kC.mono ?_
      rintro e w1 ⟨rfl, hb1⟩
      have hB1 := stepA hb0 hb1
      have bQ := bP.on hb1
      have x0 := bQ.c0
      have x1 := bQ.c1
      have x2 := bQ.c2
      clear kC
      have fA := hf.below hB1
      clear hb0 hb1 hf hf0
      go_wp2_with fail
      refine (kF _ fA).mono ?_
      rintro e w3 ⟨rfl, hb3⟩
      have hB3 := stepA hB1 hb3
      have b3 := bQ.on hb3
      clear x0 x1 x2 bQ bP hb3 kF
      have x3 := b3.c3
      have x4 := b3.c4
      clear b3
      clear kD
      go_wp2
      go_ret
      exact ⟨ret_bool HV2.out.symm, hB3⟩
    | true =>
      rw [e1] at kF
      by_cases h0 : 0 ≤ s
      rotate_left
      ·
        have HV2 : Hid (wgB W n f t s d = false) := by show wgB W n f t s d = false; rw [HV.out, e1]; simp; omega
        clear e1 HV
        go_enter Try.func5, Try.ntmps5
        go_wp2_with fail
        refine kC.mono ?_
        rintro e w1 ⟨rfl, hb1⟩
        have hB1 := stepA hb0 hb1
        have bQ := bP.on hb1
        have x0 := bQ.c0
        have x1 := bQ.c1
        have x2 := bQ.c2
        clear kC
        have fA := hf.below hB1
        clear hb0 hb1 hf hf0
        go_wp2_with fail
        refine (kF _ fA).mono ?_
        rintro e w3 ⟨rfl, hb3⟩
        have hB3 := stepA hB1 hb3
        have b3 := bQ.on hb3
        clear x0 x1 x2 bQ bP hb3 kF
        have x3 := b3.c3
        have x4 := b3.c4
        clear b3
        clear kD
        go_wp2
        go_ret
        exact ⟨ret_bool HV2.out.symm, hB3⟩
      by_cases h1 : s ≤ 9
      rotate_left
      ·
        have HV2 : Hid (wgB W n f t s d = false) := by show wgB W n f t s d = false; rw [HV.out, e1]; simp; omega
        clear e1 HV
        go_enter Try.func5, Try.ntmps5
        go_wp2_with fail
        refine kC.mono ?_
        rintro e w1 ⟨rfl, hb1⟩
        have hB1 := stepA hb0 hb1
        have bQ := bP.on hb1
        have x0 := bQ.c0
        have x1 := bQ.c1
        have x2 := bQ.c2
        clear kC
        have fA := hf.below hB1
        clear hb0 hb1 hf hf0
        go_wp2_with fail
        refine (kF _ fA).mono ?_
        rintro e w3 ⟨rfl, hb3⟩
        have hB3 := stepA hB1 hb3
        have b3 := bQ.on hb3
        clear x0 x1 x2 bQ bP hb3 kF
        have x3 := b3.c3
        have x4 := b3.c4
        clear b3
        clear kD
        go_wp2
        go_ret
        exact ⟨ret_bool HV2.out.symm, hB3⟩
      have HV2 : Hid (wgB W n f t s d = sdB d) := by show wgB W n f t s d = sdB d; rw [HV.out, e1]; simp [h0, h1]
      clear e1 HV
      go_enter Try.func5, Try.ntmps5
      go_wp2_with fail
      refine kC.mono ?_
      rintro e w1 ⟨rfl, hb1⟩
      have hB1 := stepA hb0 hb1
      have bQ := bP.on hb1
      have x0 := bQ.c0
      have x1 := bQ.c1
      have x2 := bQ.c2
      clear kC
      have fA := hf.below hB1
      clear hb0 hb1 hf hf0
      go_wp2_with fail
      refine (kF _ fA).mono ?_
      rintro e w3 ⟨rfl, hb3⟩
      have hB3 := stepA hB1 hb3
      have b3 := bQ.on hb3
      clear x0 x1 x2 bQ bP hb3 kF
      have x3 := b3.c3
      have x4 := b3.c4
      clear b3
      go_wp2_with fail
      refine (kD _).mono ?_
      rintro e w5 ⟨rfl, hw5⟩
      have hs5 := hw5.symm
      clear hw5 kD
      subst hs5
      go_wp2
      go_ret
      exact ⟨ret_bool HV2.out.symm, hB3⟩
set_option maxHeartbeats 2000000 in
theorem iGoodW (W : Int) (a : Option Addr) (n c : Nat) (t s d : Int) (f : Nat → Int) (w : World) (hn : n ≤ 1048576) (hf : IL w a n f) :
    Calls Try.prog 7 #[wvl W a n c t s d] w fun e w' => e = .returned (.bool (wgB W n f t s d)) ∧ Below w.heap.size w w' := by
  have bP := bx_new (w := w) (b := w.heap.size) (wvL W a n c t s d) 31 rfl
  have hb0 : Below w.heap.size w (w.alloc (wvO W a n c t s d 31)) := (Below.refl _ _).alloc (Nat.le_refl _) _
  have hf0 := hf.alloc (wvO W a n c t s d 31)
  have kC := groundOf_any W a n c f _ hn hf0
  obtain ⟨g0, g1, g2, g3, g4, hx⟩ := gof_gr W a n c (celB W n f)
  have kD := fun w => iSeed d w
  cases e0 : celB W n f with
  | false =>
    have HV : Hid (wgB W n f t s d = false) := by show wgB W n f t s d = false; unfold wgB; rw [e0]; rfl
    rw [hx] at kC
    rw [e0] at kC
    clear e0 hx
    go_enter Try.func7, Try.ntmps7
    go_wp2_with fail
    refine kC.mono ?_
    rintro e w1 ⟨rfl, hb1⟩
    have hB1 := stepA hb0 hb1
    have b1 := bP.on hb1
    have x0 := b1.c0
    have x1 := b1.c1
    have x2 := b1.c2
    have x3 := b1.c3
    have x4 := b1.c4
    clear kC kD hb0 hb1 b1 bP
    go_wp2
    go_ret
    exact ⟨ret_bool HV.out.symm, hB1.alloc hB1.size _⟩
  | true =>
    have HV : Hid (wgB W n f t s d = (frB n f t && decide (0 ≤ s ∧ s ≤ 9) && sdB d)) := by show wgB W n f t s d = _; unfold wgB; rw [e0]; rfl
    have hx2 : gof W a n c true = gr W (hgt W n) a n c := rfl
    rw [e0, hx2] at kC
    clear e0 hx hx2
    generalize hgt W n = H at kC
    have kF := fun w hw => free_any W H a n c f t w hw hn
    cases e1 : frB n f t with
    | false =>
      have HV2 : Hid (wgB W n f t s d = false) := by show wgB W n f t s d = false; rw [HV.out, e1]; rfl
      rw [e1] at kF
      clear e1 HV
      go_enter Try.func7, Try.ntmps7
      go_wp2_with fail
      refine kC.mono ?_
      rintro e w1 ⟨rfl, hb1⟩
      have hB1 := stepA hb0 hb1
      have bQ := bP.on hb1
      have lQ := bQ.lt
      have x0 := bQ.c0
      have x1 := bQ.c1
      have x2 := bQ.c2
      clear kC
      have hBg : Below w1.heap.size w1 (w1.alloc (.cells #[.int .i64 W, .int .i64 H, .slice a n c] 43)) := (Below.refl _ _).alloc (Nat.le_refl _) _
      have fA := (hf.below hB1).below hBg
      clear hb0 hb1 hf hf0
      go_wp2_with fail
      refine (kF _ fA).mono ?_
      rintro e w3 ⟨rfl, hb3⟩
      have hB3 := stepA (stepA hB1 hBg) hb3
      have b3 := (bQ.on hBg).on hb3
      clear x0 x1 x2 bQ bP hb3 kF
      have x3 := b3.c3
      have x4 := b3.c4
      clear b3
      clear kD
      go_wp2
      go_ret
      exact ⟨ret_bool HV2.out.symm, hB3⟩
    | true =>
      rw [e1] at kF
      by_cases h0 : 0 ≤ s
      rotate_left
      ·
        have HV2 : Hid (wgB W n f t s d = false) := by show wgB W n f t s d = false; rw [HV.out, e1]; simp; omega
        clear e1 HV
        go_enter Try.func7, Try.ntmps7
        go_wp2_with fail
        refine kC.mono ?_
        rintro e w1 ⟨rfl, hb1⟩
        have hB1 := stepA hb0 hb1
        have bQ := bP.on hb1
        have lQ := bQ.lt
        have x0 := bQ.c0
        have x1 := bQ.c1
        have x2 := bQ.c2
        clear kC
        have hBg : Below w1.heap.size w1 (w1.alloc (.cells #[.int .i64 W, .int .i64 H, .slice a n c] 43)) := (Below.refl _ _).alloc (Nat.le_refl _) _
        have fA := (hf.below hB1).below hBg
        clear hb0 hb1 hf hf0
        go_wp2_with fail
        refine (kF _ fA).mono ?_
        rintro e w3 ⟨rfl, hb3⟩
        have hB3 := stepA (stepA hB1 hBg) hb3
        have b3 := (bQ.on hBg).on hb3
        clear x0 x1 x2 bQ bP hb3 kF
        have x3 := b3.c3
        have x4 := b3.c4
        clear b3
        clear kD
        go_wp2
        go_ret
        exact ⟨ret_bool HV2.out.symm, hB3⟩
      by_cases h1 : s ≤ 9
      rotate_left
      ·
        have HV2 : Hid (wgB W n f t s d = false) := by show wgB W n f t s d = false; rw [HV.out, e1]; simp; omega
        clear e1 HV
        go_enter Try.func7, Try.ntmps7
        go_wp2_with fail
        refine kC.mono ?_
        rintro e w1 ⟨rfl, hb1⟩
        have hB1 := stepA hb0 hb1
        have bQ := bP.on hb1
        have lQ := bQ.lt
        have x0 := bQ.c0
        have x1 := bQ.c1
        have x2 := bQ.c2
        clear kC
        have hBg : Below w1.heap.size w1 (w1.alloc (.cells #[.int .i64 W, .int .i64 H, .slice a n c] 43)) := (Below.refl _ _).alloc (Nat.le_refl _) _
        have fA := (hf.below hB1).below hBg
        clear hb0 hb1 hf hf0
        go_wp2_with fail
        refine (kF _ fA).mono ?_
        rintro e w3 ⟨rfl, hb3⟩
        have hB3 := stepA (stepA hB1 hBg) hb3
        have b3 := (bQ.on hBg).on hb3
        clear x0 x1 x2 bQ bP hb3 kF
        have x3 := b3.c3
        have x4 := b3.c4
        clear b3
        clear kD
        go_wp2
        go_ret
        exact ⟨ret_bool HV2.out.symm, hB3⟩
      have HV2 : Hid (wgB W n f t s d = sdB d) := by show wgB W n f t s d = sdB d; rw [HV.out, e1]; simp [h0, h1]
      clear e1 HV
      go_enter Try.func7, Try.ntmps7
      go_wp2_with fail
      refine kC.mono ?_
      rintro e w1 ⟨rfl, hb1⟩
      have hB1 := stepA hb0 hb1
      have bQ := bP.on hb1
      have lQ := bQ.lt
      have x0 := bQ.c0
      have x1 := bQ.c1
      have x2 := bQ.c2
      clear kC
      have hBg : Below w1.heap.size w1 (w1.alloc (.cells #[.int .i64 W, .int .i64 H, .slice a n c] 43)) := (Below.refl _ _).alloc (Nat.le_refl _) _
      have fA := (hf.below hB1).below hBg
      clear hb0 hb1 hf hf0
      go_wp2_with fail
      refine (kF _ fA).mono ?_
      rintro e w3 ⟨rfl, hb3⟩
      have hB3 := stepA (stepA hB1 hBg) hb3
      have b3 := (bQ.on hBg).on hb3
      clear x0 x1 x2 bQ bP hb3 kF
      have x3 := b3.c3
      have x4 := b3.c4
      clear b3
      go_wp2_with fail
      refine (kD _).mono ?_
      rintro e w5 ⟨rfl, hw5⟩
      have hs5 := hw5.symm
      clear hw5 kD
      subst hs5
      go_wp2
      go_ret
      exact ⟨ret_bool HV2.out.symm, hB3⟩
end Go.Proofs.Ytgfmeineialcgaa
