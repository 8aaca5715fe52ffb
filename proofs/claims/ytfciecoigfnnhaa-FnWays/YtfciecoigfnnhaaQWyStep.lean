/- Steps from cell to cell, as the specification says them. -/
import Derived.Test.YtfciecoigfnnhaaQSzHv
import Derived.Test.YtfciecoigfnnhaaQClSFree
import Derived.BigQuiet
import Derived.Deep.Cut
import Derived.Deep.CutRange
namespace Go.Proofs.Ytfciecoigfnnhaa
open Go.RowKit

set_option maxHeartbeats 400000 in
theorem sAbs (n : Int) (w : World) (h0 : -100 ≤ n) : Calls Try.prog 84 #[.int .i64 n] w fun e w' => e = .returned (.int .i64 (n.natAbs : Int)) ∧ w' = w := by
  by_cases h : n < 0
  · have e0 : (n.natAbs : Int) = -n := by omega
    rw [e0]
    go_enter Try.func84, Try.ntmps84
    go_wp2
    go_ret
    exact ⟨rfl, rfl⟩
  · have e0 : (n.natAbs : Int) = n := by omega
    rw [e0]
    go_enter Try.func84, Try.ntmps84
    go_wp2
    go_ret
    exact ⟨rfl, rfl⟩

set_option maxHeartbeats 4000000 in
theorem sStep (W : Int) (q : Option Addr) (n c : Nat) (f : Nat → Int) (a b : Int) (w : World) (hs : sizedB W n = true) (hf : IL w q n f) :
    Calls Try.prog 48 #[cel W q n c, .int .i64 a, .int .i64 b] w fun e w' => e = .returned (.int .i64 (stepV W n f a b)) ∧ Below w.heap.size w w' := by
  have hn : n ≤ 1048576 := by have := sized_le hs; omega
  have hn2 := sized_le hs
  have hb0 : Below w.heap.size w (w.alloc (celO W q n c 25)) := (Below.refl _ _).alloc (Nat.le_refl _) _
  have bA := bx_new (w := w) (celL W q n c) 25 rfl
  have x0 := bA.c0
  have x1 := bA.c1
  have ka := sfree_any W q n c f a (w.alloc (celO W q n c 25)) (hf.below hb0) hn
  cases ea : frB n f a with
  | false =>
    have e0 : stepV W n f a b = 0 := by simp [stepV, ea]
    rw [e0]
    rw [ea] at ka
    go_enter Try.func48, Try.ntmps48
    go_wp2_with fail
    refine ka.mono ?_
    rintro e w1 ⟨rfl, hb1⟩
    have hB1 := stepA hb0 hb1
    clear ka
    go_wp2
    go_ret
    exact ⟨rfl, hB1⟩
  | true =>
    rw [ea] at ka
    cases eb : frB n f b with
    | false =>
      have e0 : stepV W n f a b = 0 := by simp [stepV, eb]
      rw [e0]
      go_enter Try.func48, Try.ntmps48
      go_wp2_with fail
      refine ka.mono ?_
      rintro e w1 ⟨rfl, hb1⟩
      have hB1 := stepA hb0 hb1
      have bA1 := bA.on hb1
      have y0 := bA1.c0
      have y1 := bA1.c1
      have kb := sfree_any W q n c f b w1 (hf.below hB1) hn
      rw [eb] at kb
      clear ka x0 x1
      go_wp2_with fail
      refine kb.mono ?_
      rintro e w2 ⟨rfl, hb2⟩
      have hB2 := stepA hB1 hb2
      clear kb
      go_wp2
      go_ret
      exact ⟨rfl, hB2⟩
    | true =>
      obtain ⟨a0, a1, _⟩ := frB_t ea
      obtain ⟨b0, b1, _⟩ := frB_t eb
      obtain ⟨ax, ay⟩ := crd hs a0 a1
      obtain ⟨bx, by'⟩ := crd hs b0 b1
      have ta := tm_of (W := W) a0
      have da := td_of (W := W) a0
      have tb := tm_of (W := W) b0
      have db := td_of (W := W) b0
      have hW := (sizedB_t hs).1
      have hW2 := (sizedB_t hs).2.1
      have hW0 : ¬ W = 0 := by omega
      have e0 : stepV W n f a b = (if (b % W - a % W).natAbs + (b / W - a / W).natAbs = 1 then 1 else if (b % W - a % W).natAbs = 1 ∧ (b / W - a / W).natAbs = 1 ∧ frB n f (a + (b % W - a % W)) = true ∧ frB n f (a + (b / W - a / W) * W) = true then 2 else 0) := by simp only [stepV, ea, eb, Bool.and_self, if_true]
      have E0 : Hid _ := e0
      clear e0
      generalize a % W = AX at *
      generalize a / W = AY at *
      generalize b % W = BX at *
      generalize b / W = BY at *
      have kx := fun w => sAbs (BX - AX) w (by omega)
      have ky := fun w => sAbs (BY - AY) w (by omega)
      have m1 := mul_100 (a := BY - AY) (b := W) (by omega) (by omega) (by omega) (by omega)
      go_enter Try.func48, Try.ntmps48
      go_wp2_with fail
      refine ka.mono ?_
      rintro e w1 ⟨rfl, hb1⟩
      have hB1 := stepA hb0 hb1
      have bA1 := bA.on hb1
      have y0 := bA1.c0
      have y1 := bA1.c1
      have kb := sfree_any W q n c f b w1 (hf.below hB1) hn
      rw [eb] at kb
      clear ka x0 x1 bA
      go_wp2_with fail
      refine kb.mono ?_
      rintro e w2 ⟨rfl, hb2⟩
      have hB2 := stepA hB1 hb2
      have bA2 := bA1.on hb2
      have u0 := bA2.c0
      have u1 := bA2.c1
      have hF2 := hf.below hB2
      clear kb y0 y1 bA1 hf hb0 hb1 hb2 hB1 ea eb
      go_wp2_with fail
      go_quiet (fail)
      go_wp2_with fail
      go_quiet (fail)
      go_upto_region 5 with fail
      have dx0 : -15 ≤ BX - AX ∧ BX - AX ≤ 15 := by omega
      have dy0 : -15 ≤ BY - AY ∧ BY - AY ≤ 15 := by omega
      generalize BX - AX = DX at *
      generalize BY - AY = DY at *
      have nx0 : 0 ≤ (DX.natAbs : Int) ∧ (DX.natAbs : Int) ≤ 15 := by omega
      have ny0 : 0 ≤ (DY.natAbs : Int) ∧ (DY.natAbs : Int) ≤ 15 := by omega
      have E1 : Hid (stepV W n f a b = if (DX.natAbs : Int) + (DY.natAbs : Int) = 1 then 1 else if (DX.natAbs : Int) = 1 ∧ (DY.natAbs : Int) = 1 ∧ frB n f (a + DX) = true ∧ frB n f (a + DY * W) = true then 2 else 0) := (by
        rw [E0.out]
        have i1 : (DX.natAbs + DY.natAbs = 1) = ((DX.natAbs : Int) + (DY.natAbs : Int) = 1) := propext ⟨fun h => by omega, fun h => by omega⟩
        have i2 : (DX.natAbs = 1) = ((DX.natAbs : Int) = 1) := propext ⟨fun h => by omega, fun h => by omega⟩
        have i3 : (DY.natAbs = 1) = ((DY.natAbs : Int) = 1) := propext ⟨fun h => by omega, fun h => by omega⟩
        simp only [i1, i2, i3] : _ = _)
      clear E0
      have kf1 := fun w h => sfree_any W q n c f (a + DX) w h hn
      have kf2 := fun w h => sfree_any W q n c f (a + DY * W) w h hn
      generalize (DX.natAbs : Int) = NX at *
      generalize (DY.natAbs : Int) = NY at *
      generalize hf1 : frB n f (a + DX) = B1 at *
      generalize hf2 : frB n f (a + DY * W) = B2 at *
      clear hf1 hf2
      obtain ⟨mm0, mm1⟩ := m1
      have wm : IntKind.i64.wrap (DY * W) = DY * W := IntWalk.i64_in _ ⟨by omega, by omega⟩
      cases c1 : (NX + NY == 1) with
      | true =>
        have h1 : NX + NY = 1 := by simpa using c1
        have r := E1.out
        rw [if_pos h1] at r
        clear h1 E1
        go_wp2_with (first | (go_at_call_of 84 (Value.int .i64 DX); refine (kx _).mono ?_; rintro e w' ⟨rfl, hw'⟩; rw [hw']; clear hw') | (go_at_call_of 84 (Value.int .i64 DY); refine (ky _).mono ?_; rintro e w' ⟨rfl, hw'⟩; rw [hw']; clear hw'))
        go_ret
        exact ⟨ret_int r.symm, (by repeat' (first | exact hB2 | refine below_dr ?_ _))⟩
      | false =>
        have h1 : ¬ NX + NY = 1 := by simpa using c1
        have r := E1.out
        rw [if_neg h1] at r
        clear h1 E1
        have R : Hid _ := r
        clear r
        cases c2 : (NX == 1) with
        | false =>
          have h2 : ¬ NX = 1 := by simpa using c2
          have r := R.out
          rw [if_neg (fun h => h2 h.1)] at r
          clear h2 R
          go_wp2_with (first | (go_at_call_of 84 (Value.int .i64 DX); refine (kx _).mono ?_; rintro e w' ⟨rfl, hw'⟩; rw [hw']; clear hw') | (go_at_call_of 84 (Value.int .i64 DY); refine (ky _).mono ?_; rintro e w' ⟨rfl, hw'⟩; rw [hw']; clear hw'))
          go_ret
          exact ⟨ret_int r.symm, (by repeat' (first | exact hB2 | refine below_dr ?_ _))⟩
        | true =>
          have h2 : NX = 1 := by simpa using c2
          cases c3 : (NY == 1) with
          | false =>
            have h3 : ¬ NY = 1 := by simpa using c3
            have r := R.out
            rw [if_neg (fun h => h3 h.2.1)] at r
            clear h2 h3 R
            go_wp2_with (first | (go_at_call_of 84 (Value.int .i64 DX); refine (kx _).mono ?_; rintro e w' ⟨rfl, hw'⟩; rw [hw']; clear hw') | (go_at_call_of 84 (Value.int .i64 DY); refine (ky _).mono ?_; rintro e w' ⟨rfl, hw'⟩; rw [hw']; clear hw'))
            go_ret
            exact ⟨ret_int r.symm, (by repeat' (first | exact hB2 | refine below_dr ?_ _))⟩
          | true =>
            have h3 : NY = 1 := by simpa using c3
            have r := R.out
            simp only [h2, h3, true_and] at r
            clear h2 h3 R
            have R : Hid _ := r
            clear r
            cases B1 with
            | false =>
              have r := R.out
              simp only [Bool.false_eq_true, false_and, if_false] at r
              clear R
              go_wp2_with (first | (go_at_call_of 84 (Value.int .i64 DX); refine (kx _).mono ?_; rintro e w' ⟨rfl, hw'⟩; rw [hw']; clear hw') | (go_at_call_of 84 (Value.int .i64 DY); refine (ky _).mono ?_; rintro e w' ⟨rfl, hw'⟩; rw [hw']; clear hw'))
              refine (kf1 _ (hF2.below (by repeat' (first | exact Below.refl _ _ | refine below_dr ?_ _)))).mono ?_
              rintro e w3 ⟨rfl, hb3⟩
              go_wp2
              go_ret
              exact ⟨ret_int r.symm, stepA ((by repeat' (first | exact hB2 | refine below_dr ?_ _))) hb3⟩
            | true =>
              go_wp2_with (first | (go_at_call_of 84 (Value.int .i64 DX); refine (kx _).mono ?_; rintro e w' ⟨rfl, hw'⟩; rw [hw']; clear hw') | (go_at_call_of 84 (Value.int .i64 DY); refine (ky _).mono ?_; rintro e w' ⟨rfl, hw'⟩; rw [hw']; clear hw'))
              refine (kf1 _ (hF2.below (by repeat' (first | exact Below.refl _ _ | refine below_dr ?_ _)))).mono ?_
              rintro e w3 ⟨rfl, hb3⟩
              have hB3 : Below w2.heap.size w2 w3 := stepA (by repeat' (first | exact Below.refl _ _ | refine below_dr ?_ _)) hb3
              clear hb3
              have bA3 := bA2.on hB3
              have v0 := bA3.c0
              have v1 := bA3.c1
              clear u0 u1
              cases B2 with
              | false =>
                have r := R.out
                simp only [Bool.false_eq_true, and_false, if_false] at r
                go_wp2_with fail
                refine (kf2 _ (hF2.below hB3)).mono ?_
                rintro e w4 ⟨rfl, hb4⟩
                go_wp2
                go_ret
                exact ⟨ret_int r.symm, stepA (stepA hB2 hB3) hb4⟩
              | true =>
                have r := R.out
                simp only [and_self, if_true] at r
                go_wp2_with fail
                refine (kf2 _ (hF2.below hB3)).mono ?_
                rintro e w4 ⟨rfl, hb4⟩
                go_wp2
                go_ret
                exact ⟨ret_int r.symm, stepA (stepA hB2 hB3) hb4⟩
end Go.Proofs.Ytfciecoigfnnhaa
