/- Whether a line touches a cell; whether one cell is clear from another: as the program says it. -/
import Derived.Test.YtfciecoigfnnhaaQWyTchM
import Derived.Test.YtfciecoigfnnhaaQWyLeg
import Derived.Test.YtfciecoigfnnhaaQWyTlC
import Derived.Deep.Cut
import Derived.Deep.CutRange
namespace Go.Proofs.Ytfciecoigfnnhaa
open Go.RowKit

theorem szI_szA (n : Int) : szI n = szA n := by unfold szI szA; split <;> omega

set_option maxHeartbeats 1000000 in
theorem touches_any (x y u v cx cy : Int) (w : World) (hx : 0 ≤ x ∧ x ≤ 15) (hy : 0 ≤ y ∧ y ≤ 15) (hu : -15 ≤ u ∧ u ≤ 15) (hv : -15 ≤ v ∧ v ≤ 15) (hcx : 0 ≤ cx ∧ cx ≤ 15) (hcy : 0 ≤ cy ∧ cy ≤ 15) :
    Calls Try.prog 91 #[lg x y u v, .int .i64 cx, .int .i64 cy] w fun e w' => e = .returned (.bool (tchB x y u v cx cy)) ∧ Below w.heap.size w w' := by
  have hb0 : Below w.heap.size w (w.alloc (.cells #[.int .i64 x, .int .i64 y, .int .i64 u, .int .i64 v] 123)) := (Below.refl _ _).alloc (Nat.le_refl _) _
  have bL := bx_new (w := w) (lgL x y u v) 123 rfl
  have m1 := mul_100 (a := u) (b := cy - y) (by omega) (by omega) (by omega) (by omega)
  have m2 := mul_100 (a := v) (b := cx - x) (by omega) (by omega) (by omega) (by omega)
  have k1 := fun w => sizeSign_any (u * (cy - y) - v * (cx - x)) w (by omega)
  have k2 := fun w => sizeSign_any u w (by omega)
  have k3 := fun w => sizeSign_any v w (by omega)
  have e0 : tchB x y u v cx cy = decide (2 * szI (u * (cy - y) - v * (cx - x)) ≤ szI u + szI v) := by unfold tchB; rw [szI_szA, szI_szA, szI_szA]
  have b1 : 0 ≤ szI (u * (cy - y) - v * (cx - x)) ∧ szI (u * (cy - y) - v * (cx - x)) ≤ 100000 := by unfold szI; split <;> omega
  have b2 : 0 ≤ szI u ∧ szI u ≤ 15 := by unfold szI; split <;> omega
  have b3 : 0 ≤ szI v ∧ szI v ≤ 15 := by unfold szI; split <;> omega
  rw [e0]
  clear e0
  generalize szI (u * (cy - y) - v * (cx - x)) = S1 at *
  generalize szI u = S2 at *
  generalize szI v = S3 at *
  generalize sg1 (u * (cy - y) - v * (cx - x)) = G1 at *
  generalize sg1 u = G2 at *
  generalize sg1 v = G3 at *
  go_enter Try.func91, Try.ntmps91
  go_upto_region 1 with fail
  generalize w.alloc (.cells #[.int .i64 x, .int .i64 y, .int .i64 u, .int .i64 v] 123) = w1 at hb0 bL ⊢
  have l0 := bL.c0
  have l1 := bL.c1
  have l2 := bL.c2
  have l3 := bL.c3
  go_wp2_with fail
  refine (k1 _).mono ?_
  rintro e9 w' ⟨rfl, hw'⟩
  have hs' := hw'.symm
  clear hw'
  subst hs'
  go_wp2_with fail
  refine (k2 _).mono ?_
  rintro e9 w' ⟨rfl, hw'⟩
  have hs' := hw'.symm
  clear hw'
  subst hs'
  go_wp2_with fail
  refine (k3 _).mono ?_
  rintro e9 w' ⟨rfl, hw'⟩
  have hs' := hw'.symm
  clear hw'
  subst hs'
  go_wp2
  go_ret
  exact ⟨rfl, hb0⟩

theorem kA_okC {W H : Int} {f : Nat → Int} {x y u v cx cy : Int} (h : (kA W H f cx cy == 0) = true) : okC W H f x y u v cx cy = true := by
  have h' : kA W H f cx cy = 0 := by simpa using h
  unfold kA at h'
  unfold okC
  split at h'
  · next e => simp [e, h']
  · cases h'
theorem kA_notC {W H : Int} {f : Nat → Int} {cx cy : Int} (hin : 0 ≤ cx ∧ cx < W ∧ 0 ≤ cy ∧ cy < H) (h : (kA W H f cx cy == 0) = false) : ¬ f (cy * W + cx).toNat = 0 := by
  have h' : ¬ kA W H f cx cy = 0 := by simpa using h
  unfold kA at h'
  rw [if_pos (hvB_mk hin)] at h'
  exact h'

set_option maxHeartbeats 4000000 in
theorem clearFrom_any (W : Int) (q : Option Addr) (n c : Nat) (f : Nat → Int) (a b : Int) (w : World) (hs : sizedB W n = true) (hf : IL w q n f) :
    Calls Try.prog 55 #[gr W (hgt W n) q n c, .int .i64 a, .int .i64 b] w fun e w' => e = .returned (.bool (clrB W n f a b)) ∧ Below w.heap.size w w' := by
  have hn : n ≤ 1048576 := by have := sized_le hs; omega
  have hn2 := sized_le hs
  have hb0 : Below w.heap.size w (w.alloc (.cells #[.int .i64 W, .int .i64 (hgt W n), .slice q n c] 73)) := (Below.refl _ _).alloc (Nat.le_refl _) _
  have bG := bx_new (w := w) [.int .i64 W, .int .i64 (hgt W n), .slice q n c] 73 rfl
  have hm := hgt_mul hs
  have ka := fun w h => free_any W (hgt W n) q n c f a w h hn
  have kb := fun w h => free_any W (hgt W n) q n c f b w h hn
  have kl := fun w a0 a1 b0 b1 => legFrom_any W (hgt W n) q n c a b w hs a0 a1 b0 b1
  have kk := fun x y w h => kindAt_any W (hgt W n) q n c f x y w h (by omega) hm.1 (sizedB_t hs).2.1
  cases ea : frB n f a with
  | false =>
    have e0 : clrB W n f a b = false := by simp [clrB, ea]
    rw [e0]
    rw [ea] at ka
    generalize hgt W n = H at *
    go_enter Try.func55, Try.ntmps55
    go_wp2_with fail
    refine (ka _ (hf.below hb0)).mono ?_
    rintro e9 w1 ⟨rfl, hb1⟩
    have hB1 := stepA hb0 hb1
    clear ka kb kl kk bG
    go_wp2
    go_ret
    exact ⟨rfl, hB1⟩
  | true =>
    rw [ea] at ka
    cases eb : frB n f b with
    | false =>
      have e0 : clrB W n f a b = false := by simp [clrB, eb]
      rw [e0]
      rw [eb] at kb
      generalize hgt W n = H at *
      go_enter Try.func55, Try.ntmps55
      go_wp2_with fail
      refine (ka _ (hf.below hb0)).mono ?_
      rintro e9 w1 ⟨rfl, hb1⟩
      have hB1 := stepA hb0 hb1
      have bG1 := bG.on hb1
      have y0 := bG1.c0
      have y1 := bG1.c1
      have y2 := bG1.c2
      clear ka
      go_wp2_with fail
      refine (kb _ (hf.below hB1)).mono ?_
      rintro e9 w2 ⟨rfl, hb2⟩
      have hB2 := stepA hB1 hb2
      clear kb kl kk bG bG1 y0 y1 y2
      go_wp2
      go_ret
      exact ⟨rfl, hB2⟩
    | true =>
      obtain ⟨a0, a1, _⟩ := frB_t ea
      obtain ⟨b0, b1, _⟩ := frB_t eb
      obtain ⟨ax, ay⟩ := crd hs a0 a1
      obtain ⟨bx, by'⟩ := crd hs b0 b1
      have kl := fun w => kl w a0 a1 b0 b1
      have E0 : Hid (clrB W n f a b = clK W f a b n) := (by simp [clrB, ea, eb] : _ = _)
      have hW := (sizedB_t hs).1
      have hW2 := (sizedB_t hs).2.1
      have aW : a % W < W := Int.emod_lt_of_pos a (by omega)
      have bW : b % W < W := Int.emod_lt_of_pos b (by omega)
      have aH : a / W < hgt W n := Int.ediv_lt_of_lt_mul (by omega) (by rw [hm.1]; exact a1)
      have bH : b / W < hgt W n := Int.ediv_lt_of_lt_mul (by omega) (by rw [hm.1]; exact b1)
      have EY : Hid ((∀ cx cy, boxC (a % W) (a / W) (b % W - a % W) (b / W - a / W) cx cy = true → okC W (hgt W n) f (a % W) (a / W) (b % W - a % W) (b / W - a / W) cx cy = true) → clK W f a b n = true) := fun h => clK_box h
      have EN : Hid (∀ cx cy, 0 ≤ cx ∧ cx < W ∧ 0 ≤ cy ∧ cy < hgt W n → boxC (a % W) (a / W) (b % W - a % W) (b / W - a / W) cx cy = true → ¬ f (cy * W + cx).toNat = 0 → tchB (a % W) (a / W) (b % W - a % W) (b / W - a / W) cx cy = true → clK W f a b n = false) := fun cx cy h1 h2 h3 h4 => clK_hit hm.1 h1 h2 h3 h4
      generalize hgt W n = H at *
      generalize a % W = AX at *
      generalize a / W = AY at *
      generalize b % W = BX at *
      generalize b / W = BY at *
      have dx0 : -15 ≤ BX - AX ∧ BX - AX ≤ 15 := by omega
      have dy0 : -15 ≤ BY - AY ∧ BY - AY ≤ 15 := by omega
      have ex : ∃ x0 x1 : Int, (x0 = min AX (AX + (BX - AX)) ∧ x1 = max AX (AX + (BX - AX))) ∧ 0 ≤ x0 ∧ x1 < W ∧ x0 ≤ x1 := ⟨_, _, ⟨rfl, rfl⟩, by omega, by omega, by omega⟩
      have ey : ∃ y0 y1 : Int, (y0 = min AY (AY + (BY - AY)) ∧ y1 = max AY (AY + (BY - AY))) ∧ 0 ≤ y0 ∧ y1 < H ∧ y0 ≤ y1 := ⟨_, _, ⟨rfl, rfl⟩, by omega, by omega, by omega⟩
      generalize BX - AX = DX at *
      generalize BY - AY = DY at *
      obtain ⟨X0, X1, ⟨hX0, hX1⟩, xb0, xb1, xb2⟩ := ex
      obtain ⟨Y0, Y1, ⟨hY0, hY1⟩, yb0, yb1, yb2⟩ := ey
      have hbox : Hid (∀ cx cy, boxC AX AY DX DY cx cy = true ↔ X0 ≤ cx ∧ cx ≤ X1 ∧ Y0 ≤ cy ∧ cy ≤ Y1) := fun cx cy => (by unfold boxC; rw [← hX0, ← hX1, ← hY0, ← hY1]; simp [and_assoc] : _ ↔ _)
      have q1 : ∀ ts t w, (Builtin.min_ ts t #[.int .i64 AX, .int .i64 (AX + DX)]).run Try.prog w = .ok (.int .i64 X0) w := fun ts t w => by
        rw [run_min_int2]
        have : (if AX + DX < AX then AX + DX else AX) = X0 := by rw [hX0]; split <;> omega
        rw [this]
      have q2 : ∀ ts t w, (Builtin.max_ ts t #[.int .i64 AX, .int .i64 (AX + DX)]).run Try.prog w = .ok (.int .i64 X1) w := fun ts t w => by
        rw [run_max_int2]
        have : (if AX + DX > AX then AX + DX else AX) = X1 := by rw [hX1]; split <;> omega
        rw [this]
      have q3 : ∀ ts t w, (Builtin.min_ ts t #[.int .i64 AY, .int .i64 (AY + DY)]).run Try.prog w = .ok (.int .i64 Y0) w := fun ts t w => by
        rw [run_min_int2]
        have : (if AY + DY < AY then AY + DY else AY) = Y0 := by rw [hY0]; split <;> omega
        rw [this]
      have q4 : ∀ ts t w, (Builtin.max_ ts t #[.int .i64 AY, .int .i64 (AY + DY)]).run Try.prog w = .ok (.int .i64 Y1) w := fun ts t w => by
        rw [run_max_int2]
        have : (if AY + DY > AY then AY + DY else AY) = Y1 := by rw [hY1]; split <;> omega
        rw [this]
      have kt := fun cx cy w h1 h2 => touches_any AX AY DX DY cx cy w ⟨ax.1, ax.2⟩ ⟨ay.1, ay.2⟩ dx0 dy0 h1 h2
      clear hX0 hX1 hY0 hY1
      go_enter Try.func55, Try.ntmps55
      go_wp2_with fail
      refine (ka _ (hf.below hb0)).mono ?_
      rintro e9 w1 ⟨rfl, hb1⟩
      have hB1 := stepA hb0 hb1
      have bG1 := bG.on hb1
      have y0 := bG1.c0
      have y1 := bG1.c1
      have y2 := bG1.c2
      clear ka bG hb0 hb1
      go_wp2_with fail
      refine (kb _ (hf.below hB1)).mono ?_
      rintro e9 w2 ⟨rfl, hb2⟩
      have hB2 := stepA hB1 hb2
      have bG2 := bG1.on hb2
      clear y0 y1 y2 kb bG1 hb2 hB1
      have y0 := bG2.c0
      have y1 := bG2.c1
      have y2 := bG2.c2
      go_wp2_with fail
      refine (kl _).mono ?_
      rintro e9 w3 ⟨rfl, hb3⟩
      have hB3 := stepA hB2 hb3
      have bG3 := bG2.on hb3
      clear y0 y1 y2 kl bG2 hb3 hB2
      have hB4 := hB3.alloc hB3.size (.cells #[.int .i64 AX, .int .i64 AY, .int .i64 DX, .int .i64 DY] 123)
      have bG4 := bG3.alloc (.cells #[.int .i64 AX, .int .i64 AY, .int .i64 DX, .int .i64 DY] 123)
      have bL4 := bx_new (w := w3) (b := w3.heap.size) (lgL AX AY DX DY) 123 rfl
      go_upto_region 4 with fail
      generalize w3.alloc (.cells #[.int .i64 AX, .int .i64 AY, .int .i64 DX, .int .i64 DY] 123) = w4 at hB4 bG4 bL4 ⊢
      generalize w3.heap.size = M at bL4 ⊢
      clear hB3 bG3
      have HF4 : Hid (IL w4 q n f) := hf.below hB4
      clear hf
      have l0 := bL4.c0
      have l1 := bL4.c1
      have l2 := bL4.c2
      have l3 := bL4.c3
      go_wp2
      clear l0 l1 l2 l3
      go_loopw [8] (fun s wr => ∃ cy : Int, Y0 ≤ cy ∧ cy ≤ Y1 + 1 ∧ s = .int .i64 cy ∧ (∀ x' y', X0 ≤ x' → x' ≤ X1 → Y0 ≤ y' → y' < cy → okC W H f AX AY DX DY x' y' = true) ∧ Below w4.heap.size w4 wr) (fun s _ => (Y1 + 1 - intOf s).toNat)
      case atStart => exact ⟨Y0, by omega, by omega, rfl, fun x' y' _ _ h1 h2 => by omega, Below.refl _ _⟩
      case round =>
        obtain ⟨cy, c0, c1, rfl, hall, hbel⟩ := hrel
        have HALL : Hid _ := hall
        clear hall
        have bL5 := bL4.on hbel
        have l0 := bL5.c0
        have l1 := bL5.c1
        have l2 := bL5.c2
        have l3 := bL5.c3
        by_cases hlt : cy ≤ Y1
        · go_wp2
          clear l0 l1 l2 l3
          obtain ⟨w8, hw8⟩ : ∃ w8, w8 = wr := ⟨wr, rfl⟩
          subst hw8
          go_loopw [9] (fun s wr => ∃ cx : Int, X0 ≤ cx ∧ cx ≤ X1 + 1 ∧ s = .int .i64 cx ∧ (∀ x', X0 ≤ x' → x' < cx → okC W H f AX AY DX DY x' cy = true) ∧ Below w4.heap.size w4 wr) (fun s _ => (X1 + 1 - intOf s).toNat)
          case atStart => exact ⟨X0, by omega, by omega, rfl, fun x' h1 h2 => by omega, hbel⟩
          case round =>
            obtain ⟨cx, d0, d1, rfl, hrow, hbel2⟩ := hrel
            have HROW : Hid _ := hrow
            clear hrow hbel bL5
            have bL6 := bL4.on hbel2
            have bG6 := bG4.on hbel2
            have l0 := bL6.c0
            have l1 := bL6.c1
            have l2 := bL6.c2
            have l3 := bL6.c3
            have y0 := bG6.c0
            have y1 := bG6.c1
            have y2 := bG6.c2
            by_cases hlt2 : cx ≤ X1
            · have hin : 0 ≤ cx ∧ cx < W ∧ 0 ≤ cy ∧ cy < H := by omega
              have hbx : boxC AX AY DX DY cx cy = true := (hbox.out cx cy).2 ⟨d0, hlt2, c0, hlt⟩
              have kk1 := fun w h => kk cx cy w h
              have HK1 : Hid ((kA W H f cx cy == 0) = true → okC W H f AX AY DX DY cx cy = true) := fun h => kA_okC h
              have HK2 : Hid ((kA W H f cx cy == 0) = false → ¬ f (cy * W + cx).toNat = 0) := fun h => kA_notC hin h
              have HK3 : Hid (tchB AX AY DX DY cx cy = false → okC W H f AX AY DX DY cx cy = true) := fun h => (by unfold okC; rw [h]; simp : _ = _)
              have HN : Hid (¬ f (cy * W + cx).toNat = 0 → tchB AX AY DX DY cx cy = true → clK W f a b n = false) := fun h1 h2 => EN.out cx cy hin hbx h1 h2
              have kt1 := fun w => kt cx cy w (by omega) (by omega)
              clear hbx kk kt EN
              generalize kA W H f cx cy = K at *
              generalize tchB AX AY DX DY cx cy = T at *
              go_wp2_with fail
              refine (kk1 _ (IL.below HF4.out hbel2)).mono ?_
              rintro e9 w6 ⟨rfl, hb6⟩
              have hbel6 := stepA hbel2 hb6
              have bL7 := bL6.on hb6
              clear l0 l1 l2 l3 y0 y1 y2 bG6 bL6 kk1
              cases eK : (K == 0) with
              | true =>
                have hok := HK1.out eK
                have eK2 : (K != 0) = false := by simpa using eK
                clear eK HK1 HK2 HK3 HN kt1
                go_wp2
                exact ⟨⟨cx + 1, by omega, by omega, by go_num, fun x' h1 h2 => by
                  by_cases e : x' = cx
                  · subst e; exact hok
                  · exact HROW.out x' h1 (by omega), hbel6⟩, by simp [intOf]; omega⟩
              | false =>
                have eK2 : (K != 0) = true := by simpa using eK
                have hnz := HK2.out eK
                have l0 := bL7.c0
                have l1 := bL7.c1
                have l2 := bL7.c2
                have l3 := bL7.c3
                clear eK HK1 HK2
                go_wp2_with fail
                refine (kt1 _).mono ?_
                rintro e9 w7 ⟨rfl, hb7⟩
                have hbel7 := stepA hbel6 hb7
                clear l0 l1 l2 l3 kt1
                cases T with
                | true =>
                  have hF := E0.out.trans (HN.out hnz rfl)
                  clear HK3 HN
                  go_wp2
                  go_ret
                  first | exact ⟨ret_bool hF.symm, stepA hB4 hbel7⟩ | exact ⟨rfl, stepA hB4 hbel7⟩
                | false =>
                  have hok := HK3.out rfl
                  clear HK3 HN
                  go_wp2
                  exact ⟨⟨cx + 1, by omega, by omega, by go_num, fun x' h1 h2 => by
                    by_cases e : x' = cx
                    · subst e; exact hok
                    · exact HROW.out x' h1 (by omega), hbel7⟩, by simp [intOf]; omega⟩
            · have hcx : cx = X1 + 1 := by omega
              subst hcx
              clear kk kt EN EY bG6
              go_wp2
              exact ⟨⟨cy + 1, by omega, by omega, by go_num, fun x' y' h1 h2 h3 h4 => by
                by_cases e : y' = cy
                · subst e; exact HROW.out x' h1 (by omega)
                · exact HALL.out x' y' h1 h2 h3 (by omega), hbel2⟩, by simp [intOf]; omega⟩
        · have hcy : cy = Y1 + 1 := by omega
          subst hcy
          have hT := E0.out.trans (EY.out fun x' y' h => by
            have := (hbox.out x' y').1 h
            exact HALL.out x' y' this.1 this.2.1 this.2.2.1 (by omega))
          clear kk kt EN EY
          go_wp2
          go_ret
          first | exact ⟨ret_bool hT.symm, stepA hB4 hbel⟩ | exact ⟨rfl, stepA hB4 hbel⟩
end Go.Proofs.Ytfciecoigfnnhaa
