/- A step of a hold, as the program takes it. -/
import Derived.Test.YtnoaonflphameaaHdTold
import Derived.Deep.CutRange
namespace Go.Proofs.Ytnoaonflphameaa
open Go.RowKit

abbrev ans (h : Hd) (b : Bool) : Value := .tuple #[hv h, .bool b]
/-- the boxes of a loop, a hold and an answer -/
theorem boxes_lha (l : Lp) (h : Hd) (w : World) : Bx (((w.alloc (lvo l)).alloc (hvo h)).alloc (hvo hd0)) w.heap.size (lvs l) ∧ Bx (((w.alloc (lvo l)).alloc (hvo h)).alloc (hvo hd0)) (w.heap.size + 1) (hvs h) ∧ Bx (((w.alloc (lvo l)).alloc (hvo h)).alloc (hvo hd0)) (w.heap.size + 1 + 1) (hvs hd0) ∧ Below w.heap.size w (((w.alloc (lvo l)).alloc (hvo h)).alloc (hvo hd0)) := by
  obtain ⟨z0, z1, hB⟩ := boxes_lh l h w
  exact ⟨z0.alloc _, z1.alloc _, bx_new _ _ (by simp only [size_al]), hB.alloc (by simp only [size_al]; omega) _⟩
theorem ret_hold {fn : Func} {t u : Tmp} {R : Ending → World → Prop} {a : Act} {w : World} {b : Nat} {h : Hd} (e : fn.results = #[.cell t 36, .tmp u]) (hp : a.tmps.getD t undef = .pointer (some ⟨b, 0, none⟩)) (c : Bx w b (hvs h)) (hd : a.defers = [])
    (hR : R (.returned (.tuple #[hv h, a.tmps.getD u undef])) w) : bodyPost Try.prog fn R .ret a w := by
  refine bodyPost_ret ?_ hd hR
  rw [results_cell_tmp e, hp]
  obtain ⟨x0, x1, x2, x3⟩ := hold_at c
  simp [asAddr, loadVar, go_sem, x0, x1, x2, x3]
theorem Bx.set4 {w : World} {b : Nat} {g : Hd} (c : Bx w b (hvs g)) (h : Hd) : Bx ((((w.setCell ⟨b, 0, none⟩ (.bool h.on)).setCell ⟨b, 1, none⟩ (.int .i64 h.sum)).setCell ⟨b, 2, none⟩ (.int .i64 h.last)).setCell ⟨b, 3, none⟩ (.int .i64 h.out)) b (hvs h) :=
  (((c.set 0 (by simp) _).set 1 (by simp) _).set 2 (by simp) _).set 3 (by simp) _
theorem below_four {B b : Nat} {w w1 : World} (h : Below B w w1) (hb : B ≤ b) (x y z u : Value) : Below B w ((((w1.setCell ⟨b, 0, none⟩ x).setCell ⟨b, 1, none⟩ y).setCell ⟨b, 2, none⟩ z).setCell ⟨b, 3, none⟩ u) :=
  (((h.setCell (p := ⟨b, 0, none⟩) hb _).setCell (p := ⟨b, 1, none⟩) hb _).setCell (p := ⟨b, 2, none⟩) hb _).setCell (p := ⟨b, 3, none⟩) hb _

theorem stays_a {l : Lp} {r e : Int} (h1 : l.M < r) (h2 : 0 < e) : staysB l r e = true := by simp [staysB, h1, h2]
theorem stays_b {l : Lp} {r e : Int} (h2 : ¬ 0 < e) (h3 : ¬ r < -l.M) : staysB l r e = false := by
  unfold staysB; rw [decide_eq_false h2, decide_eq_false h3, Bool.and_false, Bool.false_and]; rfl
theorem stays_c {l : Lp} {r e : Int} (h3 : r < -l.M) (h4 : e < 0) : staysB l r e = true := by simp [staysB, h3, h4]
theorem stays_d {l : Lp} {r e : Int} (h1 : ¬ l.M < r) (h4 : ¬ e < 0) : staysB l r e = false := by
  unfold staysB; rw [decide_eq_false h1, decide_eq_false h4, Bool.and_false, Bool.false_and]; rfl
theorem stays_e {l : Lp} {r e : Int} (h1 : ¬ l.M < r) (h3 : ¬ r < -l.M) : staysB l r e = false := by
  unfold staysB; rw [decide_eq_false h1, decide_eq_false h3, Bool.false_and, Bool.false_and]; rfl

set_option maxHeartbeats 2000000 in
set_option maxRecDepth 20000 in
theorem implStep_ok (l : Lp) (h : Hd) (want seen : Int) (w : World) (g : okS l h want seen = true) :
    Calls Try.prog 15 #[lv l, hv h, .int .i64 want, .int .i64 seen] w fun e w' => e = .returned (ans (nextH l h (want - seen)) true) ∧ Below w.heap.size w w' := by
  obtain ⟨z0, z1, z2, hB0⟩ := boxes_lha l h w
  obtain ⟨g1, g2, g3⟩ := okS_p g
  obtain ⟨g4, g5, -⟩ := goodH_p g1
  obtain ⟨gP, gI, gD, gS, gM, gW, gL⟩ := goodL_p g4
  have hG := fun w => implGoodH l h w
  rw [g1] at hG
  have hR1 := fun w => reach_any want w
  have e1 : inB want 1000000 = true := decide_eq_true (by omega)
  rw [e1] at hR1
  have hR2 := fun w => reach_any seen w
  have e2 : inB seen 1000000 = true := decide_eq_true (by omega)
  rw [e2] at hR2
  have hT := fun w => told_any l h (want - seen) w g1 (by omega)
  have hD := fun w => down_any (shrI l h (want - seen)) l.S w (by omega)
  have hr : rawI l h (want - seen) = dnI (shrI l h (want - seen)) l.S := rfl
  rw [← hr] at hD
  generalize hF : nextH l h (want - seen) = F
  have HF : Hid ((⟨true, if staysB l (rawI l h (want - seen)) (want - seen) then h.sum else sumI l h (want - seen), want - seen, if slewB l h then cutI (cutI (rawI l h (want - seen)) (-l.M) l.M) (h.out - l.L) (h.out + l.L) else cutI (rawI l h (want - seen)) (-l.M) l.M⟩ : Hd) = F) := hF
  clear hF
  generalize rawI l h (want - seen) = r at hD HF
  generalize shrI l h (want - seen) = q at hT hD
  generalize sumI l h (want - seen) = s at hT HF
  have hC1 := fun w => between_any r (-l.M) l.M w (by omega)
  generalize cutI r (-l.M) l.M = o at hC1 HF
  have hC2 := fun w => between_any o (h.out - l.L) (h.out + l.L) w (by omega)
  generalize cutI o (h.out - l.L) (h.out + l.L) = o2 at hC2 HF
  clear hr e1 e2 g g1 g4
  go_enter Try.func15, Try.ntmps15
  go_wp2_with fail
  refine (hG _).mono ?_
  rintro e w1 ⟨rfl, hb⟩
  have b0 := z0.on hb
  have b1 := z1.on hb
  have b2 := z2.on hb
  have hB1 := stepA hB0 hb
  clear hb z0 z1 z2 hB0 hG
  obtain ⟨x0, x1, x2, x3, x4, x5, x6⟩ := loop_at b0
  obtain ⟨y0, y1, y2, y3⟩ := hold_at b1
  go_wp2_with fail
  refine (hR1 _).mono ?_
  rintro e w' ⟨rfl, hw'⟩
  subst hw'
  go_wp2_with fail
  refine (hR2 _).mono ?_
  rintro e w'' ⟨rfl, hw''⟩
  subst hw''
  go_wp2_with fail
  refine (hT _).mono ?_
  rintro e w2 ⟨rfl, hb⟩
  have c0 := b0.on hb
  have c1 := b1.on hb
  have c2 := b2.on hb
  have hB2 := stepA hB1 hb
  have c3 := bx_new (b := w2.heap.size) (w := w2) [.int .i64 q, .int .i64 s] 81 rfl
  have hs := hb.size
  have hl := b2.lt
  clear hb b0 b1 b2 hB1 hT hR1 hR2 x0 x1 x2 x3 x4 x5 x6 y0 y1 y2 y3
  have d0 := c0.alloc (.cells #[.int .i64 q, .int .i64 s] 81)
  have d1 := c1.alloc (.cells #[.int .i64 q, .int .i64 s] 81)
  have d2 := c2.alloc (.cells #[.int .i64 q, .int .i64 s] 81)
  have hB3 : Below w.heap.size w (w2.alloc (.cells #[.int .i64 q, .int .i64 s] 81)) := hB2.alloc hB2.size _
  clear c0 c1 c2 hB2
  obtain ⟨x0, x1, x2, x3, x4, x5, x6⟩ := loop_at d0
  go_wp2_with fail
  refine (hD _).mono ?_
  rintro e w' ⟨rfl, hw'⟩
  subst hw'
  clear hD x0 x1 x2 x3 x4 x5 x6
  have hK : w.heap.size + 1 + 1 < w2.heap.size := by omega
  clear hs hl
  generalize w2.alloc (.cells #[.int .i64 q, .int .i64 s] 81) = w3 at c3 d0 d1 d2 hB3 ⊢
  generalize w2.heap.size = K at c3 hK ⊢
  obtain ⟨x0, x1, x2, x3, x4, x5, x6⟩ := loop_at d0
  obtain ⟨y0, y1, y2, y3⟩ := hold_at d1
  have v0 := c3.c0
  have v1 := c3.c1
  go_wp2_with fail
  have hw0 := Below.refl w3.heap.size w3
  have hwM : IntKind.i64.wrap (-l.M) = -l.M := IntWalk.i64_in _ ⟨by omega, by omega⟩
  go_cut [13] from 41 to 51 (fun sx wx => sx = .pointer (some ⟨w3.heap.size, 0, none⟩) ∧ wx = (w3.alloc (hvo ⟨true, s, want - seen, o⟩)).drew)
  case first =>
    go_region_held3 (fun w' => w'.cell? ⟨K, 1, none⟩ = some (.int .i64 s) ∧ w'.cell? ⟨w.heap.size, 4, none⟩ = some (.int .i64 l.M))
      (first | (exact ⟨(c3.on hw0.drew).c1, (d0.on hw0.drew).at 4 rfl⟩) | (exact ⟨((c3.on hw0.drew).alloc _).c1, ((d0.on hw0.drew).alloc _).at 4 rfl⟩) | (fail))
      (first | (go_at_call 48; refine (hC1 _).mono ?_; rintro e w' ⟨rfl, hw'⟩; subst hw') | (fail))
    all_goals
      go_wp2_with fail
      go_meet
      case rel => exact ⟨rfl, rfl⟩
  case rest =>
    obtain ⟨rfl, hwc⟩ := hcut
    subst hwc
    have n0 := (d0.alloc (hvo ⟨true, s, want - seen, o⟩)).on ((Below.refl _ _).drew)
    have n1 := (d1.alloc (hvo ⟨true, s, want - seen, o⟩)).on ((Below.refl _ _).drew)
    have n2 := (d2.alloc (hvo ⟨true, s, want - seen, o⟩)).on ((Below.refl _ _).drew)
    have n3 := (bx_new (b := w3.heap.size) (w := w3) (hvs ⟨true, s, want - seen, o⟩) 36 rfl).on ((Below.refl _ _).drew)
    have hB4 : Below w.heap.size w (w3.alloc (hvo ⟨true, s, want - seen, o⟩)).drew := (hB3.alloc hB3.size _).drew
    have hN : w.heap.size + 1 + 1 < w3.heap.size := by have := c3.lt; omega
    generalize (w3.alloc (hvo ⟨true, s, want - seen, o⟩)).drew = w4 at n0 n1 n2 n3 hB4 ⊢
    generalize w3.heap.size = N at n3 hN ⊢
    clear d0 d1 d2 c3 hB3 hC1 hK hw0 hwM gP gI gD gS gW x0 x1 x2 x3 x4 x5 x6 y0 y1 y2 y3 v0 v1
    obtain ⟨x0, x1, x2, x3, x4, x5, x6⟩ := loop_at n0
    obtain ⟨y0, y1, y2, y3⟩ := hold_at n1
    generalize hst : staysB l r (want - seen) = st at HF
    have HST : Hid (staysB l r (want - seen) = st) := hst
    clear hst
    go_upto_region 7 with fail
    go_cut [70] from 52 to 70 (fun sx wx => sx = .bool st ∧ wx = w4)
    case first =>
      by_cases a1 : l.M < r
      · by_cases a2 : 0 < want - seen
        · go_wp2_with fail
          go_meet
          case rel => exact ⟨by rw [← HST.out, stays_a (by omega) (by omega)]; try (congr 1; first | exact decide_eq_false (by omega) | exact decide_eq_true (by omega)), rfl⟩
        · have a3 : ¬ r < -l.M := by omega
          go_wp2_with fail
          go_meet
          case rel => exact ⟨by rw [← HST.out, stays_b (by omega) (by omega)]; try (congr 1; first | exact decide_eq_false (by omega) | exact decide_eq_true (by omega)), rfl⟩
      · by_cases a3 : r < -l.M
        · by_cases a4 : want - seen < 0
          · go_wp2_with fail
            go_meet
            case rel => exact ⟨by rw [← HST.out, stays_c (by omega) (by omega)]; try (congr 1; first | exact decide_eq_false (by omega) | exact decide_eq_true (by omega)), rfl⟩
          · go_wp2_with fail
            go_meet
            case rel => exact ⟨by rw [← HST.out, stays_d (by omega) (by omega)]; try (congr 1; first | exact decide_eq_false (by omega) | exact decide_eq_true (by omega)), rfl⟩
        · go_wp2_with fail
          go_meet
          case rel => exact ⟨by rw [← HST.out, stays_e (by omega) (by omega)]; try (congr 1; first | exact decide_eq_false (by omega) | exact decide_eq_true (by omega)), rfl⟩
    case rest =>
      obtain ⟨rfl, hwc⟩ := hcut
      subst hwc
      clear HST
      cases st
      · have m0 := n0
        have m1 := n1
        have m2 := n2
        have m3 := n3
        have hB5 := hB4
        clear n0 n1 n2 n3 hB4
        cases hon : h.on
        · have hsl : slewB l h = false := by simp [slewB, hon]
          obtain ⟨p0, p1, p2, p3⟩ := hold_at m3
          obtain ⟨r0, r1, r2, r3⟩ := hold_at m2
          have s0 := m2.fz 0
          have s1 := m2.fz 1
          have s2 := m2.fz 2
          have s3 := m2.fz 3
          go_wp2
          refine ret_hold rfl rfl (m2.set4 ⟨true, s, want - seen, o⟩) rfl ⟨by have e := HF.out; rw [hsl] at e; rw [← e]; rfl, below_four hB5 (by omega) _ _ _ _⟩
        · by_cases hL0 : 0 < l.L
          rotate_left
          · have hsl : slewB l h = false := by simp [slewB]; omega
            obtain ⟨p0, p1, p2, p3⟩ := hold_at m3
            obtain ⟨r0, r1, r2, r3⟩ := hold_at m2
            have s0 := m2.fz 0
            have s1 := m2.fz 1
            have s2 := m2.fz 2
            have s3 := m2.fz 3
            go_wp2
            refine ret_hold rfl rfl (m2.set4 ⟨true, s, want - seen, o⟩) rfl ⟨by have e := HF.out; rw [hsl] at e; rw [← e]; rfl, below_four hB5 (by omega) _ _ _ _⟩
          · have hsl : slewB l h = true := by simp [slewB, hon, hL0]
            have f3 := m3.fz 3
            have k3 := m3.at 3 rfl
            go_upto_region 11 with (first | (go_at_call 48; refine (hC2 _).mono ?_; rintro e w' ⟨rfl, hw'⟩; subst hw') | (fail))
            have q2 := m2.far (b' := N) (k := 3) (.int .i64 o2) (by omega)
            have q3 : Bx _ N (hvs ⟨true, s, want - seen, o2⟩) := m3.set 3 (by simp) (.int .i64 o2)
            have hB6 := hB5.setCell (p := ⟨N, 3, none⟩) (by simp; omega) (.int .i64 o2)
            clear m0 m1 m2 m3 hB5 f3 k3 x0 x1 x2 x3 x4 x5 x6 y0 y1 y2 y3
            generalize World.setCell _ ⟨N, 3, none⟩ (.int .i64 o2) = we at q2 q3 hB6 ⊢
            have m2 := q2
            obtain ⟨p0, p1, p2, p3⟩ := hold_at q3
            obtain ⟨r0, r1, r2, r3⟩ := hold_at m2
            have s0 := m2.fz 0
            have s1 := m2.fz 1
            have s2 := m2.fz 2
            have s3 := m2.fz 3
            go_wp2
            refine ret_hold rfl rfl (m2.set4 ⟨true, s, want - seen, o2⟩) rfl ⟨by have e := HF.out; rw [hsl] at e; rw [← e]; rfl, below_four hB6 (by omega) _ _ _ _⟩
      · have f1 := n3.fz 1
        have k1 := n3.c1
        go_upto_region 9 with fail
        have m0 := n0.far (b' := N) (k := 1) (.int .i64 h.sum) (by omega)
        have m1 := n1.far (b' := N) (k := 1) (.int .i64 h.sum) (by omega)
        have m2 := n2.far (b' := N) (k := 1) (.int .i64 h.sum) (by omega)
        have m3 : Bx (wc.setCell ⟨N, 1, none⟩ (.int .i64 h.sum)) N (hvs ⟨true, h.sum, want - seen, o⟩) := n3.set 1 (by simp) (.int .i64 h.sum)
        have hB5 := hB4.setCell (p := ⟨N, 1, none⟩) (by simp; omega) (.int .i64 h.sum)
        clear n0 n1 n2 n3 hB4 f1 k1 x0 x1 x2 x3 x4 x5 x6 y0 y1 y2 y3
        generalize wc.setCell ⟨N, 1, none⟩ (.int .i64 h.sum) = wd at m0 m1 m2 m3 hB5 ⊢
        obtain ⟨x0, x1, x2, x3, x4, x5, x6⟩ := loop_at m0
        obtain ⟨y0, y1, y2, y3⟩ := hold_at m1
        cases hon : h.on
        · have hsl : slewB l h = false := by simp [slewB, hon]
          obtain ⟨p0, p1, p2, p3⟩ := hold_at m3
          obtain ⟨r0, r1, r2, r3⟩ := hold_at m2
          have s0 := m2.fz 0
          have s1 := m2.fz 1
          have s2 := m2.fz 2
          have s3 := m2.fz 3
          go_wp2
          refine ret_hold rfl rfl (m2.set4 ⟨true, h.sum, want - seen, o⟩) rfl ⟨by have e := HF.out; rw [hsl] at e; rw [← e]; rfl, below_four hB5 (by omega) _ _ _ _⟩
        · by_cases hL0 : 0 < l.L
          rotate_left
          · have hsl : slewB l h = false := by simp [slewB]; omega
            obtain ⟨p0, p1, p2, p3⟩ := hold_at m3
            obtain ⟨r0, r1, r2, r3⟩ := hold_at m2
            have s0 := m2.fz 0
            have s1 := m2.fz 1
            have s2 := m2.fz 2
            have s3 := m2.fz 3
            go_wp2
            refine ret_hold rfl rfl (m2.set4 ⟨true, h.sum, want - seen, o⟩) rfl ⟨by have e := HF.out; rw [hsl] at e; rw [← e]; rfl, below_four hB5 (by omega) _ _ _ _⟩
          · have hsl : slewB l h = true := by simp [slewB, hon, hL0]
            have f3 := m3.fz 3
            have k3 := m3.at 3 rfl
            go_upto_region 11 with (first | (go_at_call 48; refine (hC2 _).mono ?_; rintro e w' ⟨rfl, hw'⟩; subst hw') | (fail))
            have q2 := m2.far (b' := N) (k := 3) (.int .i64 o2) (by omega)
            have q3 : Bx _ N (hvs ⟨true, h.sum, want - seen, o2⟩) := m3.set 3 (by simp) (.int .i64 o2)
            have hB6 := hB5.setCell (p := ⟨N, 3, none⟩) (by simp; omega) (.int .i64 o2)
            clear m0 m1 m2 m3 hB5 f3 k3 x0 x1 x2 x3 x4 x5 x6 y0 y1 y2 y3
            generalize World.setCell _ ⟨N, 3, none⟩ (.int .i64 o2) = we at q2 q3 hB6 ⊢
            have m2 := q2
            obtain ⟨p0, p1, p2, p3⟩ := hold_at q3
            obtain ⟨r0, r1, r2, r3⟩ := hold_at m2
            have s0 := m2.fz 0
            have s1 := m2.fz 1
            have s2 := m2.fz 2
            have s3 := m2.fz 3
            go_wp2
            refine ret_hold rfl rfl (m2.set4 ⟨true, h.sum, want - seen, o2⟩) rfl ⟨by have e := HF.out; rw [hsl] at e; rw [← e]; rfl, below_four hB6 (by omega) _ _ _ _⟩
end Go.Proofs.Ytnoaonflphameaa
