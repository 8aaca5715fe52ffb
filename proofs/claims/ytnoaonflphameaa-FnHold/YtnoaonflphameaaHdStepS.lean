/- A step of a hold, as the specification takes it. -/
import Derived.Test.YtnoaonflphameaaHdStepI
namespace Go.Proofs.Ytnoaonflphameaa
open Go.RowKit

set_option maxHeartbeats 2000000 in
set_option maxRecDepth 20000 in
theorem specStep_ok (l : Lp) (h : Hd) (want seen : Int) (w : World) (g : okS l h want seen = true) :
    Calls Try.prog 44 #[lv l, hv h, .int .i64 want, .int .i64 seen] w fun e w' => e = .returned (ans (nextH l h (want - seen)) true) ∧ Below w.heap.size w w' := by
  obtain ⟨z0, z1, z2, hB0⟩ := boxes_lha l h w
  obtain ⟨g1, g2, g3⟩ := okS_p g
  obtain ⟨g4, g5, -⟩ := goodH_p g1
  obtain ⟨gP, gI, gD, gS, gM, gW, gL⟩ := goodL_p g4
  have hG := fun w => specGoodH l h w
  rw [g1] at hG
  have hR1 := fun w => value_any want w
  have e1 : inB want 1000000 = true := decide_eq_true (by omega)
  rw [e1] at hR1
  have hR2 := fun w => value_any seen w
  have e2 : inB seen 1000000 = true := decide_eq_true (by omega)
  rw [e2] at hR2
  have hT := fun w => l13Cut_any (h.sum + (want - seen)) (-l.W) l.W w
  have hs : sumI l h (want - seen) = cutI (h.sum + (want - seen)) (-l.W) l.W := rfl
  rw [← hs] at hT
  have hD := fun w => l13Down_any (shrI l h (want - seen)) l.S w (by omega)
  have hr : rawI l h (want - seen) = dnI (shrI l h (want - seen)) l.S := rfl
  rw [← hr] at hD
  have hd : ∃ d, d = chgI h (want - seen) ∧ (-4000000 ≤ d ∧ d ≤ 4000000) := ⟨_, rfl, by unfold chgI; split <;> omega⟩
  obtain ⟨d, hd, hd2⟩ := hd
  have hq : shrI l h (want - seen) = wrap64 (wrap64 (wrap64 (l.P * (want - seen)) + wrap64 (l.I * sumI l h (want - seen))) + wrap64 (l.D * d)) := by rw [hd]; rfl
  rw [hq] at hD
  have HD : Hid (d = chgI h (want - seen)) := hd
  generalize hF : nextH l h (want - seen) = F
  have HF : Hid ((⟨true, if staysB l (rawI l h (want - seen)) (want - seen) then h.sum else sumI l h (want - seen), want - seen, if slewB l h then cutI (cutI (rawI l h (want - seen)) (-l.M) l.M) (h.out - l.L) (h.out + l.L) else cutI (rawI l h (want - seen)) (-l.M) l.M⟩ : Hd) = F) := hF
  clear hF
  generalize rawI l h (want - seen) = r at hD HF
  clear hq hs hr hd
  generalize sumI l h (want - seen) = s at hT hD HF
  have hC1 := fun w => l13Cut_any r (-l.M) l.M w
  generalize cutI r (-l.M) l.M = o at hC1 HF
  have hC2 := fun w => l13Cut_any o (h.out - l.L) (h.out + l.L) w
  generalize cutI o (h.out - l.L) (h.out + l.L) = o2 at hC2 HF
  clear e1 e2 g g1 g4
  go_enter Try.func44, Try.ntmps44
  go_wp2_with fail
  refine (hG _).mono ?_
  rintro e w1 ⟨rfl, hb⟩
  have b0 := z0.on hb
  have b1 := z1.on hb
  have b2 := z2.on hb
  have hB1 := stepA hB0 hb
  clear hb z0 z1 z2 hB0 hG
  obtain ⟨x0, x1, x2, x3, x4, x5, x6⟩ := loop_at b0
  obtain ⟨y0, y1, y2, y3⟩ := hold_at b1
  go_wp2_with fail
  refine (hR1 _).mono ?_
  rintro e w' ⟨rfl, hw'⟩
  subst hw'
  go_wp2_with fail
  refine (hR2 _).mono ?_
  rintro e w'' ⟨rfl, hw''⟩
  subst hw''
  clear hR1 hR2
  go_upto_if 34 with fail
  go_cut [11, 16, 34] from 35 to 38 (fun sx sy sz wx => sx = .int .i64 d ∧ sy = hv h ∧ sz = .bool h.on ∧ wx = w'')
  case first =>
    cases hon : h.on
    · go_wp2_with fail
      go_meet
      case rel => exact ⟨by rw [HD.out]; simp [chgI, hon], by simp [hon], by simp [hon], rfl⟩
    · go_wp2_with fail
      go_meet
      case rel => exact ⟨by rw [HD.out]; simp [chgI, hon], by simp [hon], by simp [hon], rfl⟩
  case rest =>
    obtain ⟨rfl, rfl, rfl, hwc⟩ := hcut
    subst hwc
    clear HD
    go_wp2_with fail
    refine (hT _).mono ?_
    rintro e w' ⟨rfl, hw'⟩
    subst hw'
    go_wp2_with fail
    refine (hD _).mono ?_
    rintro e w' ⟨rfl, hw'⟩
    subst hw'
    go_wp2_with fail
    refine (hC1 _).mono ?_
    rintro e w3 ⟨rfl, hw'⟩
    subst hw'
    clear hT hD hC1
    go_upto_region 10 with fail
    have n0 := b0.alloc (hvo ⟨true, s, want - seen, o⟩)
    have n1 := b1.alloc (hvo ⟨true, s, want - seen, o⟩)
    have n2 := b2.alloc (hvo ⟨true, s, want - seen, o⟩)
    have n3 := bx_new (b := w3.heap.size) (w := w3) (hvs ⟨true, s, want - seen, o⟩) 36 rfl
    have hB4 : Below w.heap.size w (w3.alloc (hvo ⟨true, s, want - seen, o⟩)) := hB1.alloc hB1.size _
    have hN : w.heap.size + 1 + 1 < w3.heap.size := b2.lt
    generalize w3.alloc (hvo ⟨true, s, want - seen, o⟩) = w4 at n0 n1 n2 n3 hB4 ⊢
    generalize w3.heap.size = N at n3 hN ⊢
    clear b0 b1 b2 hB1 gP gI gD gS gW hd2 x0 x1 x2 x3 x4 x5 x6 y0 y1 y2 y3
    obtain ⟨x0, x1, x2, x3, x4, x5, x6⟩ := loop_at n0
    obtain ⟨y0, y1, y2, y3⟩ := hold_at n1
    generalize hst : staysB l r (want - seen) = st at HF
    have HST : Hid (staysB l r (want - seen) = st) := hst
    clear hst
    go_upto_region 10 with fail
    go_cut [94] from 76 to 94 (fun sx wx => sx = .bool st ∧ wx = w4)
    case first =>
      by_cases a1 : l.M < r
      · by_cases a2 : 0 < want - seen
        · go_wp2_with fail
          go_meet
          case rel => exact ⟨by rw [← HST.out, stays_a (by omega) (by omega)]; try (congr 1; first | exact decide_eq_false (by omega) | exact decide_eq_true (by omega)), rfl⟩
        · have a3 : ¬ r < -l.M := by omega
          go_wp2_with fail
          go_meet
          case rel => exact ⟨by rw [← HST.out, stays_b (by omega) (by omega)]; try (congr 1; first | exact decide_eq_false (by omega) | exact decide_eq_true (by omega)), rfl⟩
      · by_cases a3 : r < -l.M
        · by_cases a4 : want - seen < 0
          · go_wp2_with fail
            go_meet
            case rel => exact ⟨by rw [← HST.out, stays_c (by omega) (by omega)]; try (congr 1; first | exact decide_eq_false (by omega) | exact decide_eq_true (by omega)), rfl⟩
          · go_wp2_with fail
            go_meet
            case rel => exact ⟨by rw [← HST.out, stays_d (by omega) (by omega)]; try (congr 1; first | exact decide_eq_false (by omega) | exact decide_eq_true (by omega)), rfl⟩
        · go_wp2_with fail
          go_meet
          case rel => exact ⟨by rw [← HST.out, stays_e (by omega) (by omega)]; try (congr 1; first | exact decide_eq_false (by omega) | exact decide_eq_true (by omega)), rfl⟩
    case rest =>
      obtain ⟨rfl, hwc⟩ := hcut
      subst hwc
      clear HST
      cases st
      · have m0 := n0
        have m1 := n1
        have m2 := n2
        have m3 := n3
        have hB5 := hB4
        clear n0 n1 n2 n3 hB4
        cases hon : h.on
        · have hsl : slewB l h = false := by simp [slewB, hon]
          obtain ⟨p0, p1, p2, p3⟩ := hold_at m3
          obtain ⟨r0, r1, r2, r3⟩ := hold_at m2
          have s0 := m2.fz 0
          have s1 := m2.fz 1
          have s2 := m2.fz 2
          have s3 := m2.fz 3
          go_wp2
          refine ret_hold rfl rfl (m2.set4 ⟨true, s, want - seen, o⟩) rfl ⟨by have e := HF.out; rw [hsl] at e; rw [← e]; rfl, below_four hB5 (by omega) _ _ _ _⟩
        · by_cases hL0 : 0 < l.L
          rotate_left
          · have hsl : slewB l h = false := by simp [slewB]; omega
            obtain ⟨p0, p1, p2, p3⟩ := hold_at m3
            obtain ⟨r0, r1, r2, r3⟩ := hold_at m2
            have s0 := m2.fz 0
            have s1 := m2.fz 1
            have s2 := m2.fz 2
            have s3 := m2.fz 3
            go_wp2
            refine ret_hold rfl rfl (m2.set4 ⟨true, s, want - seen, o⟩) rfl ⟨by have e := HF.out; rw [hsl] at e; rw [← e]; rfl, below_four hB5 (by omega) _ _ _ _⟩
          · have hsl : slewB l h = true := by simp [slewB, hon, hL0]
            have f3 := m3.fz 3
            have k3 := m3.at 3 rfl
            go_upto_region 14 with (first | (go_at_call 53; refine (hC2 _).mono ?_; rintro e w' ⟨rfl, hw'⟩; subst hw') | (fail))
            have q2 := m2.far (b' := N) (k := 3) (.int .i64 o2) (by omega)
            have q3 : Bx _ N (hvs ⟨true, s, want - seen, o2⟩) := m3.set 3 (by simp) (.int .i64 o2)
            have hB6 := hB5.setCell (p := ⟨N, 3, none⟩) (by simp; omega) (.int .i64 o2)
            clear m0 m1 m2 m3 hB5 f3 k3 x0 x1 x2 x3 x4 x5 x6 y0 y1 y2 y3
            generalize World.setCell _ ⟨N, 3, none⟩ (.int .i64 o2) = we at q2 q3 hB6 ⊢
            have m2 := q2
            obtain ⟨p0, p1, p2, p3⟩ := hold_at q3
            obtain ⟨r0, r1, r2, r3⟩ := hold_at m2
            have s0 := m2.fz 0
            have s1 := m2.fz 1
            have s2 := m2.fz 2
            have s3 := m2.fz 3
            go_wp2
            refine ret_hold rfl rfl (m2.set4 ⟨true, s, want - seen, o2⟩) rfl ⟨by have e := HF.out; rw [hsl] at e; rw [← e]; rfl, below_four hB6 (by omega) _ _ _ _⟩
      · have f1 := n3.fz 1
        have k1 := n3.c1
        go_upto_region 12 with fail
        have m0 := n0.far (b' := N) (k := 1) (.int .i64 h.sum) (by omega)
        have m1 := n1.far (b' := N) (k := 1) (.int .i64 h.sum) (by omega)
        have m2 := n2.far (b' := N) (k := 1) (.int .i64 h.sum) (by omega)
        have m3 : Bx (wc.setCell ⟨N, 1, none⟩ (.int .i64 h.sum)) N (hvs ⟨true, h.sum, want - seen, o⟩) := n3.set 1 (by simp) (.int .i64 h.sum)
        have hB5 := hB4.setCell (p := ⟨N, 1, none⟩) (by simp; omega) (.int .i64 h.sum)
        clear n0 n1 n2 n3 hB4 f1 k1 x0 x1 x2 x3 x4 x5 x6 y0 y1 y2 y3
        generalize wc.setCell ⟨N, 1, none⟩ (.int .i64 h.sum) = wd at m0 m1 m2 m3 hB5 ⊢
        obtain ⟨x0, x1, x2, x3, x4, x5, x6⟩ := loop_at m0
        obtain ⟨y0, y1, y2, y3⟩ := hold_at m1
        cases hon : h.on
        · have hsl : slewB l h = false := by simp [slewB, hon]
          obtain ⟨p0, p1, p2, p3⟩ := hold_at m3
          obtain ⟨r0, r1, r2, r3⟩ := hold_at m2
          have s0 := m2.fz 0
          have s1 := m2.fz 1
          have s2 := m2.fz 2
          have s3 := m2.fz 3
          go_wp2
          refine ret_hold rfl rfl (m2.set4 ⟨true, h.sum, want - seen, o⟩) rfl ⟨by have e := HF.out; rw [hsl] at e; rw [← e]; rfl, below_four hB5 (by omega) _ _ _ _⟩
        · by_cases hL0 : 0 < l.L
          rotate_left
          · have hsl : slewB l h = false := by simp [slewB]; omega
            obtain ⟨p0, p1, p2, p3⟩ := hold_at m3
            obtain ⟨r0, r1, r2, r3⟩ := hold_at m2
            have s0 := m2.fz 0
            have s1 := m2.fz 1
            have s2 := m2.fz 2
            have s3 := m2.fz 3
            go_wp2
            refine ret_hold rfl rfl (m2.set4 ⟨true, h.sum, want - seen, o⟩) rfl ⟨by have e := HF.out; rw [hsl] at e; rw [← e]; rfl, below_four hB5 (by omega) _ _ _ _⟩
          · have hsl : slewB l h = true := by simp [slewB, hon, hL0]
            have f3 := m3.fz 3
            have k3 := m3.at 3 rfl
            go_upto_region 14 with (first | (go_at_call 53; refine (hC2 _).mono ?_; rintro e w' ⟨rfl, hw'⟩; subst hw') | (fail))
            have q2 := m2.far (b' := N) (k := 3) (.int .i64 o2) (by omega)
            have q3 : Bx _ N (hvs ⟨true, h.sum, want - seen, o2⟩) := m3.set 3 (by simp) (.int .i64 o2)
            have hB6 := hB5.setCell (p := ⟨N, 3, none⟩) (by simp; omega) (.int .i64 o2)
            clear m0 m1 m2 m3 hB5 f3 k3 x0 x1 x2 x3 x4 x5 x6 y0 y1 y2 y3
            generalize World.setCell _ ⟨N, 3, none⟩ (.int .i64 o2) = we at q2 q3 hB6 ⊢
            have m2 := q2
            obtain ⟨p0, p1, p2, p3⟩ := hold_at q3
            obtain ⟨r0, r1, r2, r3⟩ := hold_at m2
            have s0 := m2.fz 0
            have s1 := m2.fz 1
            have s2 := m2.fz 2
            have s3 := m2.fz 3
            go_wp2
            refine ret_hold rfl rfl (m2.set4 ⟨true, h.sum, want - seen, o2⟩) rfl ⟨by have e := HF.out; rw [hsl] at e; rw [← e]; rfl, below_four hB6 (by omega) _ _ _ _⟩
end Go.Proofs.Ytnoaonflphameaa
