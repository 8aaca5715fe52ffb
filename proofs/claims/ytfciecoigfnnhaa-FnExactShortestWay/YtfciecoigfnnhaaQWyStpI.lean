/- Steps from cell to cell, as the program says them. -/
import Derived.Test.YtfciecoigfnnhaaQWyLeg
import Derived.Test.YtfciecoigfnnhaaQWyTlC
import Derived.Test.YtfciecoigfnnhaaQSzHv
import Derived.Deep.Cut
import Derived.Deep.CutRange
namespace Go.Proofs.Ytfciecoigfnnhaa
open Go.RowKit

/-- the toll of a step of a kind -/
abbrev stA (v : Int) : Int := if v = 1 then 1 else 0
abbrev stC (v : Int) : Int := if v = 2 then 1 else 0
theorem ret_toll_tmp {fn : Func} {t t2 : Tmp} {R : Ending → World → Prop} {a : Act} {w : World} {b : Nat} {u v : Int} (h : fn.results = #[.cell t 88, .tmp t2]) (hp : a.tmps.getD t undef = .pointer (some ⟨b, 0, none⟩)) (c : Bx w b [.int .i64 u, .int .i64 v]) (hd : a.defers = [])
    (hR : R (.returned (.tuple #[tl u v, a.tmps.getD t2 undef])) w) : bodyPost Try.prog fn R .ret a w := by
  refine bodyPost_ret ?_ hd hR
  rw [results_cell_tmp h, hp]
  simp [asAddr, loadVar, go_sem, c.c0, c.c1]
theorem ret_step {v u1 u2 : Int} {q : Bool} (h1 : u1 = stA v) (h2 : u2 = stC v) (h3 : q = decide (v ≠ 0)) : Ending.returned (.tuple #[tl u1 u2, .bool q]) = .returned (.tuple #[tl (stA v) (stC v), .bool (decide (v ≠ 0))]) := by rw [h1, h2, h3]
theorem kA_fr {W H : Int} {n : Nat} {f : Nat → Int} {x y p : Int} (hH : H * W = (n : Int)) (hx : 0 ≤ x ∧ x < W) (hy : 0 ≤ y ∧ y < H) (hp : p = y * W + x) : (kA W H f x y == 0) = frB n f p := by
  subst hp
  have hv : hvB W H x y = true := hvB_mk ⟨hx.1, hx.2, hy.1, hy.2⟩
  have hi := idx_bd hH ⟨hx.1, hx.2, hy.1, hy.2⟩
  unfold kA
  rw [if_pos hv]
  cases e : (f (y * W + x).toNat == 0) with
  | true =>
    have e' : f (y * W + x).toNat = 0 := by simpa using e
    exact (frB_mk ⟨by omega, hi.2, e'⟩).symm
  | false =>
    have e' : ¬ f (y * W + x).toNat = 0 := by simpa using e
    exact (frB_f (by intro h; exact e' h.2.2)).symm
theorem szI_abs (n : Int) : szI n = (n.natAbs : Int) := by unfold szI; split <;> omega

set_option maxHeartbeats 4000000 in
theorem stepToll_any (W : Int) (q : Option Addr) (n c : Nat) (f : Nat → Int) (a b : Int) (w : World) (hs : sizedB W n = true) (hf : IL w q n f) :
    Calls Try.prog 51 #[gr W (hgt W n) q n c, .int .i64 a, .int .i64 b] w fun e w' => e = .returned (.tuple #[tl (stA (stepV W n f a b)) (stC (stepV W n f a b)), .bool (decide (stepV W n f a b ≠ 0))]) ∧ Below w.heap.size w w' := by
  have hn : n ≤ 1048576 := by have := sized_le hs; omega
  have hn2 := sized_le hs
  have hb0 : Below w.heap.size w ((w.alloc (.cells #[.int .i64 W, .int .i64 (hgt W n), .slice q n c] 73)).alloc (.cells #[.int .i64 0, .int .i64 0] 88)) := ((Below.refl _ _).alloc (Nat.le_refl _) _).alloc (by simp) _
  have bG := (bx_new (w := w) [.int .i64 W, .int .i64 (hgt W n), .slice q n c] 73 rfl).alloc (.cells #[.int .i64 0, .int .i64 0] 88)
  have bR := bx_new (w := w.alloc (.cells #[.int .i64 W, .int .i64 (hgt W n), .slice q n c] 73)) (b := w.heap.size + 1) [.int .i64 0, .int .i64 0] 88 (by simp)
  have hm := hgt_mul hs
  have ka := fun w h => free_any W (hgt W n) q n c f a w h hn
  have kb := fun w h => free_any W (hgt W n) q n c f b w h hn
  have kl := fun w a0 a1 b0 b1 => legFrom_any W (hgt W n) q n c a b w hs a0 a1 b0 b1
  have kk := fun x y w h => kindAt_any W (hgt W n) q n c f x y w h (by omega) hm.1 (sizedB_t hs).2.1
  cases ea : frB n f a with
  | false =>
    have e0 : stepV W n f a b = 0 := by simp [stepV, ea]
    rw [e0]
    rw [ea] at ka
    generalize hgt W n = H at *
    go_enter Try.func51, Try.ntmps51
    go_wp2_with fail
    refine (ka _ (hf.below hb0)).mono ?_
    rintro e9 w1 ⟨rfl, hb1⟩
    have hB1 := stepA hb0 hb1
    have r := bR.on hb1
    clear ka kb kl kk bG bR
    have s0 := r.c0
    have s1 := r.c1
    have f0 := r.fz 0
    have f1 := r.fz 1
    have LR := r.lt
    have bE := ((r.set 0 (by simp) (.int .i64 0)).set 1 (by simp) (.int .i64 0))
    have hBE := ((hB1.setCell (p := ⟨w.heap.size + 1, 0, none⟩) (by simp) (.int .i64 0)).setCell (p := ⟨w.heap.size + 1, 1, none⟩) (by simp) (.int .i64 0))
    go_wp2
    refine ret_toll_tmp Try.results51 rfl bE rfl ?_
    exact ⟨rfl, hBE⟩
  | true =>
    rw [ea] at ka
    cases eb : frB n f b with
    | false =>
      have e0 : stepV W n f a b = 0 := by simp [stepV, eb]
      rw [e0]
      rw [eb] at kb
      generalize hgt W n = H at *
      go_enter Try.func51, Try.ntmps51
      go_wp2_with fail
      refine (ka _ (hf.below hb0)).mono ?_
      rintro e9 w1 ⟨rfl, hb1⟩
      have hB1 := stepA hb0 hb1
      have bG1 := bG.on hb1
      have y0 := bG1.c0
      have y1 := bG1.c1
      have y2 := bG1.c2
      clear ka
      go_wp2_with fail
      refine (kb _ (hf.below hB1)).mono ?_
      rintro e9 w2 ⟨rfl, hb2⟩
      have hB2 := stepA hB1 hb2
      have r := (bR.on hb1).on hb2
      clear kb kl kk bG bR bG1 y0 y1 y2
      have s0 := r.c0
      have s1 := r.c1
      have f0 := r.fz 0
      have f1 := r.fz 1
      have LR := r.lt
      have bE := ((r.set 0 (by simp) (.int .i64 0)).set 1 (by simp) (.int .i64 0))
      have hBE := ((hB2.setCell (p := ⟨w.heap.size + 1, 0, none⟩) (by simp) (.int .i64 0)).setCell (p := ⟨w.heap.size + 1, 1, none⟩) (by simp) (.int .i64 0))
      go_wp2
      refine ret_toll_tmp Try.results51 rfl bE rfl ?_
      exact ⟨rfl, hBE⟩
    | true =>
      obtain ⟨a0, a1, _⟩ := frB_t ea
      obtain ⟨b0, b1, _⟩ := frB_t eb
      obtain ⟨ax, ay⟩ := crd hs a0 a1
      obtain ⟨bx, by'⟩ := crd hs b0 b1
      have kl := fun w => kl w a0 a1 b0 b1
      have e0 : stepV W n f a b = (if (b % W - a % W).natAbs + (b / W - a / W).natAbs = 1 then 1 else if (b % W - a % W).natAbs = 1 ∧ (b / W - a / W).natAbs = 1 ∧ frB n f (a + (b % W - a % W)) = true ∧ frB n f (a + (b / W - a / W) * W) = true then 2 else 0) := by simp only [stepV, ea, eb, Bool.and_self, if_true]
      have hW := (sizedB_t hs).1
      have hW2 := (sizedB_t hs).2.1
      have aW : a % W < W := Int.emod_lt_of_pos a (by omega)
      have bW : b % W < W := Int.emod_lt_of_pos b (by omega)
      have aH : a / W < hgt W n := Int.ediv_lt_of_lt_mul (by omega) (by rw [hm.1]; exact a1)
      have bH : b / W < hgt W n := Int.ediv_lt_of_lt_mul (by omega) (by rw [hm.1]; exact b1)
      have ae : a / W * W + a % W = a := by rw [Int.mul_comm]; exact Int.mul_ediv_add_emod a W
      have f1 := kA_fr (f := f) hm.1 (x := a % W + (b % W - a % W)) (y := a / W) (p := a + (b % W - a % W)) (by omega) (by omega) (by omega)
      have f2 := kA_fr (f := f) hm.1 (x := a % W) (y := a / W + (b / W - a / W)) (p := a + (b / W - a / W) * W) (by omega) (by omega) (by rw [Int.add_mul]; omega)
      generalize hgt W n = H at *
      generalize a % W = AX at *
      generalize a / W = AY at *
      generalize b % W = BX at *
      generalize b / W = BY at *
      have dx0 : -15 ≤ BX - AX ∧ BX - AX ≤ 15 := by omega
      have dy0 : -15 ≤ BY - AY ∧ BY - AY ≤ 15 := by omega
      generalize BX - AX = DX at *
      generalize BY - AY = DY at *
      have kx := fun w => sizeSign_any DX w (by omega)
      have ky := fun w => sizeSign_any DY w (by omega)
      have k1 := fun w h => kk (AX + DX) AY w h
      have k2 := fun w h => kk AX (AY + DY) w h
      have sx := szI_abs DX
      have sy := szI_abs DY
      have E0 : Hid (stepV W n f a b = if szI DX + szI DY = 1 then 1 else if szI DX = 1 ∧ szI DY = 1 ∧ frB n f (a + DX) = true ∧ frB n f (a + DY * W) = true then 2 else 0) := (by
        rw [e0, sx, sy]
        have i1 : (DX.natAbs + DY.natAbs = 1) = ((DX.natAbs : Int) + (DY.natAbs : Int) = 1) := propext ⟨fun h => by omega, fun h => by omega⟩
        have i2 : (DX.natAbs = 1) = ((DX.natAbs : Int) = 1) := propext ⟨fun h => by omega, fun h => by omega⟩
        have i3 : (DY.natAbs = 1) = ((DY.natAbs : Int) = 1) := propext ⟨fun h => by omega, fun h => by omega⟩
        simp only [i1, i2, i3] : _ = _)
      have nx0 : 0 ≤ szI DX ∧ szI DX ≤ 15 := by omega
      have ny0 : 0 ≤ szI DY ∧ szI DY ≤ 15 := by omega
      clear e0 sx sy kk ae
      generalize stepV W n f a b = V at *
      rw [← f1, ← f2] at E0
      clear f1 f2
      generalize kA W H f (AX + DX) AY = K1 at *
      generalize kA W H f AX (AY + DY) = K2 at *
      generalize szI DX = NX at *
      generalize szI DY = NY at *
      generalize sg1 DX = SX at *
      generalize sg1 DY = SY at *
      go_enter Try.func51, Try.ntmps51
      go_wp2_with fail
      refine (ka _ (hf.below hb0)).mono ?_
      rintro e9 w1 ⟨rfl, hb1⟩
      have hB1 := stepA hb0 hb1
      have bG1 := bG.on hb1
      have bR1 := bR.on hb1
      have y0 := bG1.c0
      have y1 := bG1.c1
      have y2 := bG1.c2
      clear ka bG bR hb0 hb1
      go_wp2_with fail
      refine (kb _ (hf.below hB1)).mono ?_
      rintro e9 w2 ⟨rfl, hb2⟩
      have hB2 := stepA hB1 hb2
      have bG2 := bG1.on hb2
      have bR2 := bR1.on hb2
      clear y0 y1 y2 kb bG1 bR1 hb2 hB1
      have y0 := bG2.c0
      have y1 := bG2.c1
      have y2 := bG2.c2
      go_wp2_with fail
      refine (kl _).mono ?_
      rintro e9 w3 ⟨rfl, hb3⟩
      have hB3 := stepA hB2 hb3
      have bG3 := bG2.on hb3
      have bR3 := bR2.on hb3
      clear y0 y1 y2 kl bG2 bR2 hb3 hB2
      have hB4 := hB3.alloc hB3.size (.cells #[.int .i64 AX, .int .i64 AY, .int .i64 DX, .int .i64 DY] 123)
      have bG4 := bG3.alloc (.cells #[.int .i64 AX, .int .i64 AY, .int .i64 DX, .int .i64 DY] 123)
      have bR4 := bR3.alloc (.cells #[.int .i64 AX, .int .i64 AY, .int .i64 DX, .int .i64 DY] 123)
      have bL4 := bx_new (w := w3) (b := w3.heap.size) (lgL AX AY DX DY) 123 rfl
      go_upto_region 4 with fail
      generalize w3.alloc (.cells #[.int .i64 AX, .int .i64 AY, .int .i64 DX, .int .i64 DY] 123) = w4 at hB4 bG4 bR4 bL4 ⊢
      generalize w3.heap.size = M at bL4 ⊢
      clear hB3 bG3 bR3
      have l0 := bL4.c0
      have l1 := bL4.c1
      have l2 := bL4.c2
      have l3 := bL4.c3
      have y0 := bG4.c0
      have y1 := bG4.c1
      have y2 := bG4.c2
      go_wp2_with fail
      refine (kx _).mono ?_
      rintro e9 w' ⟨rfl, hw'⟩
      have hs' := hw'.symm
      clear hw'
      subst hs'
      go_wp2_with fail
      refine (ky _).mono ?_
      rintro e9 w' ⟨rfl, hw'⟩
      have hs' := hw'.symm
      clear hw'
      subst hs'
      have r := bR4
      cases c1 : (NX + NY == 1) with
      | true =>
        have h1 : NX + NY = 1 := by simpa using c1
        have V0 := E0.out
        rw [if_pos h1] at V0
        clear E0 h1 k1 k2 kx ky bR4 bG4 bL4
        have s0 := r.c0
        have s1 := r.c1
        have f0 := r.fz 0
        have f1 := r.fz 1
        have LR := r.lt
        have bE := ((r.set 0 (by simp) (.int .i64 1)).set 1 (by simp) (.int .i64 0))
        have hBE := ((hB4.setCell (p := ⟨w.heap.size + 1, 0, none⟩) (by simp) (.int .i64 1)).setCell (p := ⟨w.heap.size + 1, 1, none⟩) (by simp) (.int .i64 0))
        go_wp2
        refine ret_toll_tmp Try.results51 rfl bE rfl ?_
        subst V0
        exact ⟨ret_step rfl rfl rfl, hBE⟩
      | false =>
        have h1 : ¬ NX + NY = 1 := by simpa using c1
        cases c2 : (NX == 1) with
        | false =>
          have h2 : ¬ NX = 1 := by simpa using c2
          have V0 := E0.out
          rw [if_neg h1, if_neg (fun h => h2 h.1)] at V0
          clear E0 h1 h2 k1 k2 kx ky bR4 bG4 bL4
          have s0 := r.c0
          have s1 := r.c1
          have f0 := r.fz 0
          have f1 := r.fz 1
          have LR := r.lt
          have bE := ((r.set 0 (by simp) (.int .i64 0)).set 1 (by simp) (.int .i64 0))
          have hBE := ((hB4.setCell (p := ⟨w.heap.size + 1, 0, none⟩) (by simp) (.int .i64 0)).setCell (p := ⟨w.heap.size + 1, 1, none⟩) (by simp) (.int .i64 0))
          go_wp2
          refine ret_toll_tmp Try.results51 rfl bE rfl ?_
          subst V0
          exact ⟨ret_step rfl rfl rfl, hBE⟩
        | true =>
          cases c3 : (NY == 1) with
          | false =>
            have h2 : ¬ NY = 1 := by simpa using c3
            have V0 := E0.out
            rw [if_neg h1, if_neg (fun h => h2 h.2.1)] at V0
            clear E0 h1 h2 k1 k2 kx ky bR4 bG4 bL4
            have s0 := r.c0
            have s1 := r.c1
            have f0 := r.fz 0
            have f1 := r.fz 1
            have LR := r.lt
            have bE := ((r.set 0 (by simp) (.int .i64 0)).set 1 (by simp) (.int .i64 0))
            have hBE := ((hB4.setCell (p := ⟨w.heap.size + 1, 0, none⟩) (by simp) (.int .i64 0)).setCell (p := ⟨w.heap.size + 1, 1, none⟩) (by simp) (.int .i64 0))
            go_wp2
            refine ret_toll_tmp Try.results51 rfl bE rfl ?_
            subst V0
            exact ⟨ret_step rfl rfl rfl, hBE⟩
          | true =>
            have h2 : NX = 1 := by simpa using c2
            have h3 : NY = 1 := by simpa using c3
            clear r
            go_wp2_with fail
            refine (k1 _ (hf.below hB4)).mono ?_
            rintro e9 w5 ⟨rfl, hb5⟩
            have hB5 := stepA hB4 hb5
            have bG5 := bG4.on hb5
            have bR5 := bR4.on hb5
            have bL5 := bL4.on hb5
            clear l0 l1 l2 l3 y0 y1 y2 bG4 bR4 bL4 hb5 k1
            cases c4 : (K1 == 0) with
            | false =>
              have V0 := E0.out
              rw [if_neg h1, if_neg (fun h => by rw [c4] at h; exact absurd h.2.2.1 (by simp))] at V0
              have r := bR5
              clear E0 h1 h2 h3 k2 kx ky bR5 bG5 bL5
              have s0 := r.c0
              have s1 := r.c1
              have f0 := r.fz 0
              have f1 := r.fz 1
              have LR := r.lt
              have bE := ((r.set 0 (by simp) (.int .i64 0)).set 1 (by simp) (.int .i64 0))
              have hBE := ((hB5.setCell (p := ⟨w.heap.size + 1, 0, none⟩) (by simp) (.int .i64 0)).setCell (p := ⟨w.heap.size + 1, 1, none⟩) (by simp) (.int .i64 0))
              go_wp2
              refine ret_toll_tmp Try.results51 rfl bE rfl ?_
              subst V0
              exact ⟨ret_step rfl rfl rfl, hBE⟩
            | true =>
              have l0 := bL5.c0
              have l1 := bL5.c1
              have l2 := bL5.c2
              have l3 := bL5.c3
              have y0 := bG5.c0
              have y1 := bG5.c1
              have y2 := bG5.c2
              go_wp2_with fail
              refine (k2 _ (hf.below hB5)).mono ?_
              rintro e9 w6 ⟨rfl, hb6⟩
              have hB6 := stepA hB5 hb6
              have r := bR5.on hb6
              clear l0 l1 l2 l3 y0 y1 y2 bG5 bR5 bL5 hb6 k2
              cases c5 : (K2 == 0) with
              | false =>
                have V0 := E0.out
                rw [if_neg h1, if_neg (fun h => by rw [c5] at h; exact absurd h.2.2.2 (by simp))] at V0
                clear E0 h1 h2 h3 kx ky
                have s0 := r.c0
                have s1 := r.c1
                have f0 := r.fz 0
                have f1 := r.fz 1
                have LR := r.lt
                have bE := ((r.set 0 (by simp) (.int .i64 0)).set 1 (by simp) (.int .i64 0))
                have hBE := ((hB6.setCell (p := ⟨w.heap.size + 1, 0, none⟩) (by simp) (.int .i64 0)).setCell (p := ⟨w.heap.size + 1, 1, none⟩) (by simp) (.int .i64 0))
                go_wp2
                refine ret_toll_tmp Try.results51 rfl bE rfl ?_
                subst V0
                exact ⟨ret_step rfl rfl rfl, hBE⟩
              | true =>
                have V0 := E0.out
                rw [if_neg h1, if_pos ⟨h2, h3, c4, c5⟩] at V0
                clear E0 h1 h2 h3 kx ky
                have s0 := r.c0
                have s1 := r.c1
                have f0 := r.fz 0
                have f1 := r.fz 1
                have LR := r.lt
                have bE := ((r.set 0 (by simp) (.int .i64 0)).set 1 (by simp) (.int .i64 1))
                have hBE := ((hB6.setCell (p := ⟨w.heap.size + 1, 0, none⟩) (by simp) (.int .i64 0)).setCell (p := ⟨w.heap.size + 1, 1, none⟩) (by simp) (.int .i64 1))
                go_wp2
                refine ret_toll_tmp Try.results51 rfl bE rfl ?_
                subst V0
                exact ⟨ret_step rfl rfl rfl, hBE⟩
end Go.Proofs.Ytfciecoigfnnhaa
