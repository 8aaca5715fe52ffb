/- What FnHold asks of a step of a hold. -/
import Derived.Test.YtnoaonflphameaaHdStepS
import Derived.BigQuiet
namespace Go.Proofs.Ytnoaonflphameaa
open Go.RowKit

def absI (n : Int) : Int := if n < 0 then -n else n
set_option maxHeartbeats 400000 in
theorem l4Abs_small (n : Int) (w : World) (h : -4000000 ≤ n ∧ n ≤ 4000000) :
    Calls Try.prog 51 #[.int .i64 n] w fun e w' => e = .returned (.int .i64 (absI n)) ∧ w' = w := by
  by_cases hz : n < 0
  · go_enter Try.func51, Try.ntmps51
    go_wp2
    go_ret
    exact ⟨ret_int (by unfold absI; rw [if_pos hz]), rfl⟩
  · go_enter Try.func51, Try.ntmps51
    go_wp2
    go_ret
    exact ⟨ret_int (by unfold absI; rw [if_neg (by omega)]), rfl⟩
theorem out_near {l : Lp} {h : Hd} {e : Int} (hon : h.on = true) (hL : 0 < l.L) : absI ((nextH l h e).out - h.out) ≤ l.L := by
  have hsl : slewB l h = true := by simp [slewB, hon, hL]
  have e1 : (nextH l h e).out = cutI (cutI (rawI l h e) (-l.M) l.M) (h.out - l.L) (h.out + l.L) := by
    show (if slewB l h then _ else _) = _
    rw [hsl, if_pos rfl]
  rw [e1]
  have c := cut_in (n := cutI (rawI l h e) (-l.M) l.M) (lo := h.out - l.L) (hi := h.out + l.L) (by omega)
  unfold absI
  split <;> omega
theorem sum_stays {l : Lp} {h : Hd} {e : Int} (hs : staysB l (rawI l h e) e = true) : (nextH l h e).sum = h.sum := by
  show (if staysB l (rawI l h e) e then _ else _) = _
  rw [hs, if_pos rfl]
theorem boxes_lhn (l : Lp) (h n : Hd) (w : World) : Bx (((w.alloc (lvo l)).alloc (hvo h)).alloc (hvo n)) w.heap.size (lvs l) ∧ Bx (((w.alloc (lvo l)).alloc (hvo h)).alloc (hvo n)) (w.heap.size + 1) (hvs h) ∧ Bx (((w.alloc (lvo l)).alloc (hvo h)).alloc (hvo n)) (w.heap.size + 1 + 1) (hvs n) ∧ Below w.heap.size w (((w.alloc (lvo l)).alloc (hvo h)).alloc (hvo n)) := by
  obtain ⟨z0, z1, hB⟩ := boxes_lh l h w
  exact ⟨z0.alloc _, z1.alloc _, bx_new _ _ (by simp only [size_al]), hB.alloc (by simp only [size_al]; omega) _⟩

set_option maxHeartbeats 4000000 in
set_option maxRecDepth 20000 in
theorem holdFine_in (l : Lp) (h : Hd) (E Ns No : Int) (w : World) (g1 : goodH l h = true) (hE : -2000000 ≤ E ∧ E ≤ 2000000) (hNo : -l.M ≤ No ∧ No ≤ l.M)
    (hnr : h.on = true → 0 < l.L → absI (No - h.out) ≤ l.L) (hst : staysB l (rawI l h E) E = true → Ns = h.sum) :
    Calls Try.prog 17 #[lv l, hv h, hv ⟨true, Ns, E, No⟩, .int .i64 E] w fun e w' => e = .returned (.bool true) ∧ Below w.heap.size w w' := by
  have HNR : Hid (h.on = true → 0 < l.L → absI (No - h.out) ≤ l.L) := hnr
  obtain ⟨g4, g5, -⟩ := goodH_p g1
  obtain ⟨gP, gI, gD, gS, gM, gW, gL⟩ := goodL_p g4
  have hT := fun w => l13Cut_any (h.sum + E) (-l.W) l.W w
  have hs : sumI l h E = cutI (h.sum + E) (-l.W) l.W := rfl
  rw [← hs] at hT
  have hD := fun w => l13Down_any (shrI l h E) l.S w (by omega)
  have hr : rawI l h E = dnI (shrI l h E) l.S := rfl
  rw [← hr] at hD
  have hd : ∃ d, d = chgI h E ∧ (-4000000 ≤ d ∧ d ≤ 4000000) := ⟨_, rfl, by unfold chgI; split <;> omega⟩
  obtain ⟨d, hd, hd2⟩ := hd
  have hq : shrI l h E = wrap64 (wrap64 (wrap64 (l.P * E) + wrap64 (l.I * sumI l h E)) + wrap64 (l.D * d)) := by rw [hd]; rfl
  rw [hq] at hD
  have HD : Hid (d = chgI h E) := hd
  generalize rawI l h E = r at hD hst
  clear hq hs hr hd
  generalize sumI l h E = s at hT hD
  generalize hst2 : staysB l r E = st at hst
  have HST : Hid (staysB l r E = st) := hst2
  have HNS : Hid (st = true → Ns = h.sum) := hst
  clear hst2 hst g1 g4 hnr
  obtain ⟨z0, z1, z2, hB0⟩ := boxes_lhn l h ⟨true, Ns, E, No⟩ w
  go_enter Try.func17, Try.ntmps17
  go_upto_region 1 with fail
  generalize ((w.alloc (lvo l)).alloc (hvo h)).alloc (hvo ⟨true, Ns, E, No⟩) = w1 at z0 z1 z2 hB0 ⊢
  obtain ⟨x0, x1, x2, x3, x4, x5, x6⟩ := loop_at z0
  obtain ⟨y0, y1, y2, y3⟩ := hold_at z1
  obtain ⟨n0, n1, n2, n3⟩ := hold_at z2
  go_cut [39] from 11 to 39 (fun sx wx => sx = .bool false ∧ Below w1.heap.size w1 wx)
  case first =>
    cases hon : h.on
    · rw [hon] at y0
      go_quiet (fail)
      go_wp2_with fail
      go_meet
      case rel => exact ⟨rfl, below_dr (Below.refl _ _) _⟩
    · rw [hon] at y0
      by_cases hL : 0 < l.L
      · have k0 : decide (0 < l.L) = true := decide_eq_true hL
        have hab := HNR.out hon hL
        have hAb := fun w => l4Abs_small (No - h.out) w (by omega)
        generalize absI (No - h.out) = ab at hab hAb
        have k1 : decide (l.L < ab) = false := decide_eq_false (by omega)
        go_quiet ((go_at_call 51; exact Calls.quiet_of_same (hAb _)))
        go_wp2_with fail
        go_meet
        case rel => exact ⟨rfl, below_dr (Below.refl _ _) _⟩
      · have k0 : decide (0 < l.L) = false := decide_eq_false hL
        go_quiet (fail)
        go_wp2_with fail
        go_meet
        case rel => exact ⟨rfl, below_dr (Below.refl _ _) _⟩
  case rest =>
    obtain ⟨rfl, hbc⟩ := hcut
    have c0 := z0.on hbc
    have c1 := z1.on hbc
    have c2 := z2.on hbc
    have hB1 := stepA hB0 hbc
    clear z0 z1 z2 hB0 hbc x0 x1 x2 x3 x4 x5 x6 y0 y1 y2 y3 n0 n1 n2 n3 HNR
    generalize wc = w2 at c0 c1 c2 hB1 ⊢
    obtain ⟨x0, x1, x2, x3, x4, x5, x6⟩ := loop_at c0
    obtain ⟨y0, y1, y2, y3⟩ := hold_at c1
    obtain ⟨n0, n1, n2, n3⟩ := hold_at c2
    go_upto_if 41 with fail
    go_cut [9, 41] from 42 to 45 (fun sx sy wx => sx = .int .i64 d ∧ sy = .bool h.on ∧ wx = w2)
    case first =>
      cases hon : h.on
      · go_wp2_with fail
        go_meet
        case rel => exact ⟨by rw [HD.out]; simp [chgI, hon], by simp [hon], rfl⟩
      · go_wp2_with fail
        go_meet
        case rel => exact ⟨by rw [HD.out]; simp [chgI, hon], by simp [hon], rfl⟩
    case rest =>
      obtain ⟨rfl, rfl, hwc⟩ := hcut
      subst hwc
      clear HD
      go_wp2_with fail
      go_quiet (first | (go_at_call 53; exact Calls.quiet_of_same (hT _)) | (go_at_call 52; exact Calls.quiet_of_same (hD _)))
      have hX := below_dr (Below.refl wc.heap.size wc) nq
      have d0 := c0.on hX
      have d1 := c1.on hX
      have d2 := c2.on hX
      have hB2 := stepA hB1 hX
      clear c0 c1 c2 hB1 hX hT hD x0 x1 x2 x3 x4 x5 x6 y0 y1 y2 y3 n0 n1 n2 n3
      generalize wc.drewN nq = w3 at d0 d1 d2 hB2 ⊢
      obtain ⟨x0, x1, x2, x3, x4, x5, x6⟩ := loop_at d0
      obtain ⟨y0, y1, y2, y3⟩ := hold_at d1
      obtain ⟨n0, n1, n2, n3⟩ := hold_at d2
      go_upto_region 7 with fail
      go_cut [90] from 72 to 90 (fun sx wx => sx = .bool st ∧ wx = w3)
      case first =>
        by_cases a1 : l.M < r
        · by_cases a2 : 0 < E
          · go_wp2_with fail
            go_meet
            case rel => exact ⟨by rw [← HST.out, stays_a (by omega) (by omega)]; try (congr 1; first | exact decide_eq_false (by omega) | exact decide_eq_true (by omega)), rfl⟩
          · have a3 : ¬ r < -l.M := by omega
            go_wp2_with fail
            go_meet
            case rel => exact ⟨by rw [← HST.out, stays_b (by omega) (by omega)]; try (congr 1; first | exact decide_eq_false (by omega) | exact decide_eq_true (by omega)), rfl⟩
        · by_cases a3 : r < -l.M
          · by_cases a4 : E < 0
            · go_wp2_with fail
              go_meet
              case rel => exact ⟨by rw [← HST.out, stays_c (by omega) (by omega)]; try (congr 1; first | exact decide_eq_false (by omega) | exact decide_eq_true (by omega)), rfl⟩
            · go_wp2_with fail
              go_meet
              case rel => exact ⟨by rw [← HST.out, stays_d (by omega) (by omega)]; try (congr 1; first | exact decide_eq_false (by omega) | exact decide_eq_true (by omega)), rfl⟩
          · go_wp2_with fail
            go_meet
            case rel => exact ⟨by rw [← HST.out, stays_e (by omega) (by omega)]; try (congr 1; first | exact decide_eq_false (by omega) | exact decide_eq_true (by omega)), rfl⟩
      case rest =>
        obtain ⟨rfl, hwc⟩ := hcut
        subst hwc
        clear HST
        cases st
        · go_wp2
          go_ret
          exact ⟨rfl, hB2⟩
        · have e1 := HNS.out rfl
          go_wp2
          go_ret
          exact ⟨rfl, hB2⟩
theorem holdFine_any (l : Lp) (h : Hd) (want seen : Int) (w : World) (g : okS l h want seen = true) :
    Calls Try.prog 17 #[lv l, hv h, hv (nextH l h (want - seen)), .int .i64 (want - seen)] w fun e w' => e = .returned (.bool true) ∧ Below w.heap.size w w' := by
  obtain ⟨g1, g2, g3⟩ := okS_p g
  obtain ⟨-, g5, -⟩ := goodH_p (good_next g)
  exact holdFine_in l h (want - seen) (nextH l h (want - seen)).sum (nextH l h (want - seen)).out w g1 (by omega) g5.2.1 (fun a b => out_near a b) (fun a => sum_stays a)
end Go.Proofs.Ytnoaonflphameaa
