/- What a sender sends next, as the model says it (tools/gen_tasn2.py). -/
import Derived.Test.YtbhfkhlhfpmkmaaTaSnB
import Derived.BigRegion
import Derived.BigQuiet
namespace Go.Proofs.Ytbhfkhlhfpmkmaa
open Go.RowKit
set_option maxRecDepth 20000 in
set_option maxHeartbeats 4000000 in
theorem sSend_yes (b n c : Nat) (k t d : Int) (f : Nat → Int) (w : World) (hq : snQ n k t d = true) (hf : IL w (some ⟨b, 0, none⟩) n f) :
    Calls Try.prog 19 #[snv (some ⟨b, 0, none⟩) n c k t, .int .i64 d] w fun e w' => AnsSn w w' e n f k t d ∧ Below w.heap.size w w' := by
  obtain ⟨i0, hi, hzz⟩ := Option.map_eq_some_iff.1 infoI
  simp only [Prod.mk.injEq] at hzz
  obtain ⟨hz0, hz1, hz2⟩ := hzz
  obtain ⟨c0, c1, c2, hB0⟩ := boxes_sn (some ⟨b, 0, none⟩) n c k t w
  have x0 := c0.c0
  have x1 := c0.c1
  have x2 := c0.c2
  have y0 := c1.c0
  have y1 := c1.c1
  have y2 := c2.c0
  have y3 := c2.c1
  have y4 := c2.c2
  have f0 := c1.fz 0
  have f1 := c1.fz 1
  have f2 := c2.fz 0
  have f3 := c2.fz 1
  have f4 := c2.fz 2
  have HQ : Hid (snQ n k t d = true) := hq
  have hM := snM_bd hq
  have hK := snK_bd hq
  have hq' := hq
  simp only [snQ, Bool.and_eq_true, decide_eq_true_eq, Bool.not_eq_true', decide_eq_false_iff_not] at hq'
  obtain ⟨⟨⟨hg, hk⟩, hd1⟩, hd2⟩ := hq'
  obtain ⟨hn0, hk0, hk1, ht0, ht1⟩ := gsB_parts hg
  have j1 : (k == (n : Int)) = false := by simp [hk]
  have j2 : ¬ d < 1 := by omega
  have j3 : ¬ 10 < d := by omega
  obtain ⟨j, hj⟩ : ∃ j : Nat, snK n k t d = (j : Int) := ⟨(snK n k t d).toNat, by omega⟩
  have HJ : Hid (snK n k t d = (j : Int)) := hj
  have hj1 : j < n := by omega
  obtain ⟨b', o', e, hbl, hcell⟩ := hf (by omega)
  cases e
  have hcj := hcell j hj1
  rw [Nat.zero_add] at hcj
  have hfj := hf.below hB0
  have hKd : k + t % snM n k d = (j : Int) := hj
  clear hq hcell hk hj
  have hMd : snM n k d = if d < (n : Int) - k then d else (n : Int) - k := rfl
  by_cases hdn : d < (n : Int) - k
  · rw [if_pos hdn] at hMd
    rw [hMd] at hKd hM
    clear hMd
    have jm : (d == 0) = false := by simp; omega
    have jz : ¬ d = 0 := by omega
    go_enter Try.func19, Try.ntmps19
    go_wp2_with fail
    refine (sSender (some ⟨b, 0, none⟩) n c k t _).mono ?_
    rintro e w1 ⟨rfl, hb1⟩
    rw [hg]
    have d0 := c0.on hb1
    have d1 := c1.on hb1
    have d2 := c2.on hb1
    have hB1 := stepA hB0 hb1
    clear x0 x1 x2 y0 y1 y2 y3 y4 f0 f1 f2 f3 f4
    clear c0 c1 c2 hb1 hB0
    have c0 := d0
    have c1 := d1
    have c2 := d2
    clear d0 d1 d2
    have x0 := c0.c0
    have x1 := c0.c1
    have x2 := c0.c2
    have y0 := c1.c0
    have y1 := c1.c1
    have y2 := c2.c0
    have y3 := c2.c1
    have y4 := c2.c2
    have f0 := c1.fz 0
    have f1 := c1.fz 1
    have f2 := c2.fz 0
    have f3 := c2.fz 1
    have f4 := c2.fz 2
    clear hfj
    go_upto_region 6 with fail
    go_quiet (fail)
    have hq9 : Below w1.heap.size w1 (w1.drewN nq) := below_dr (Below.refl _ _) nq
    have d0 := c0.on hq9
    have d1 := c1.on hq9
    have d2 := c2.on hq9
    have hB2 := stepA hB1 hq9
    clear c0 c1 c2 hq9 hB1
    have c0 := d0
    have c1 := d1
    have c2 := d2
    clear d0 d1 d2
    clear x0 x1 x2 y0 y1 y2 y3 y4 f0 f1 f2 f3 f4
    generalize w1.drewN nq = w2 at *
    clear hKd
    have x0 := c0.c0
    have x1 := c0.c1
    have x2 := c0.c2
    have y0 := c1.c0
    have y1 := c1.c1
    have y2 := c2.c0
    have y3 := c2.c1
    have y4 := c2.c2
    have f0 := c1.fz 0
    have f1 := c1.fz 1
    have f2 := c2.fz 0
    have f3 := c2.fz 1
    have f4 := c2.fz 2
    have l0 := c0.lt
    have g0 := c0.fz 0
    have g1 := c0.fz 1
    have g2 := c0.fz 2
    by_cases ht : t + 1 < 30
    · have HT : Hid (t + 1 = snT t) := (if_pos ht).symm
      have d0 : Bx (w2.setCell ⟨w.heap.size, 2, none⟩ (.int .i64 (t + 1))) w.heap.size (snL (some ⟨b, 0, none⟩) n c k (t + 1)) := c0.set 2 (by simp) _
      have d1 := c1.far (b' := w.heap.size) (k := 2) (.int .i64 (t + 1)) (by omega)
      have d2 := c2.far (b' := w.heap.size) (k := 2) (.int .i64 (t + 1)) (by omega)
      have hB3 := hB2.setCell (p := ⟨w.heap.size, 2, none⟩) (Nat.le_refl _) (.int .i64 (t + 1))
      clear c0 c1 c2 hB2
      have c0 := d0
      have c1 := d1
      have c2 := d2
      clear d0 d1 d2
      go_upto_region 10 with fail
      clear x0 x1 x2 y0 y1 y2 y3 y4 f0 f1 f2 f3 f4
      clear l0 g0 g1 g2
      generalize w2.setCell ⟨w.heap.size, 2, none⟩ (.int .i64 (t + 1)) = wT at *
      have x0 := c0.c0
      have x1 := c0.c1
      have x2 := c0.c2
      have y0 := c1.c0
      have y1 := c1.c1
      have y2 := c2.c0
      have y3 := c2.c1
      have y4 := c2.c2
      have f0 := c1.fz 0
      have f1 := c1.fz 1
      have f2 := c2.fz 0
      have f3 := c2.fz 1
      have f4 := c2.fz 2
      have l0 := c0.lt
      have g0 := c0.fz 0
      have g1 := c0.fz 1
      have g2 := c0.fz 2
      have hf3 := hf.below hB3
      have hcj3 := (hB3.cell (p := ⟨b, j, none⟩) hbl).trans hcj
      go_upto_region 11 with fail
      have hb4 : Below wT.heap.size wT (wT.alloc (.cells #[.int .i64 (j : Int), .int .i64 (f j)] 43)) := (Below.refl _ _).alloc (Nat.le_refl _) _
      have c3 := bx_new (b := wT.heap.size) (w := wT) [.int .i64 (j : Int), .int .i64 (f j)] 43 rfl
      have hp3 : w.heap.size + 2 < wT.heap.size := c2.lt
      have d0 := c0.on hb4
      have d1 := c1.on hb4
      have d2 := c2.on hb4
      have hB4 := stepA hB3 hb4
      clear c0 c1 c2 hb4 hB3
      have c0 := d0
      have c1 := d1
      have c2 := d2
      clear d0 d1 d2
      clear x0 x1 x2 y0 y1 y2 y3 y4 f0 f1 f2 f3 f4
      clear l0 g0 g1 g2
      clear hcj3 hf3
      generalize hwP : wT.heap.size = pb at *
      generalize wT.alloc (.cells #[.int .i64 (j : Int), .int .i64 (f j)] 43) = wP at *
      clear hwP
      have x0 := c0.c0
      have x1 := c0.c1
      have x2 := c0.c2
      have y0 := c1.c0
      have y1 := c1.c1
      have y2 := c2.c0
      have y3 := c2.c1
      have y4 := c2.c2
      have f0 := c1.fz 0
      have f1 := c1.fz 1
      have f2 := c2.fz 0
      have f3 := c2.fz 1
      have f4 := c2.fz 2
      have l0 := c0.lt
      have g0 := c0.fz 0
      have g1 := c0.fz 1
      have g2 := c0.fz 2
      have p0 := c3.c0
      have p1 := c3.c1
      have HS : Hid (w.heap.size + 2 < wP.heap.size ∧ pb < wP.heap.size ∧ w.heap.size + 2 < pb) := ⟨c2.lt, c3.lt, hp3⟩
      have hnw := il_news ((hf.below hB4).alloc (.cells #[] 3))
      go_upto_region 12 with (first | (at_builtin; refine wpList_append_own _ rfl _ _ 32 rfl wP.heap.size 3 i0 (.int .i64 0) 1 8 Try.underlying32 hi hz0 hz1 hz2 rfl (by decide) _ _ _ rfl (own_new0 wP wP.heap.size (fun _ => 0) (Nat.le_refl _)) ⟨b, 0, none⟩ n c (vL f n) rfl (by rw [vL_len, Nat.mul_one]) hnw (vL_one f n) (by unfold maxLen; omega) (by omega) (by simp) ?_; intro v5 w5 hown5 hgrow5 _; have hO5 := own_app0 hown5; obtain ⟨sa, sc, rfl⟩ := hO5.shape; have hb5 : Below wP.heap.size wP w5 := ((Below.refl wP.heap.size wP).alloc (Nat.le_refl _) _).grown hgrow5 (by simp) (fun q hq => by simp [Value.ownBlock, Act.eval] at hq; omega); have d3 := c3.on hb5; have d0 := c0.on hb5; have d1 := c1.on hb5; have d2 := c2.on hb5; have hB5 := stepA hB4 hb5; clear c0 c1 c2 hb5 hB4; have c0 := d0; have c1 := d1; have c2 := d2; clear d0 d1 d2; clear c3; have c3 := d3; clear d3 hown5 hgrow5; clear x0 x1 x2 y0 y1 y2 y3 y4 f0 f1 f2 f3 f4; clear l0 g0 g1 g2; clear p0 p1 hnw; have x0 := c0.c0; have x1 := c0.c1; have x2 := c0.c2; have y0 := c1.c0; have y1 := c1.c1; have y2 := c2.c0; have y3 := c2.c1; have y4 := c2.c2; have f0 := c1.fz 0; have f1 := c1.fz 1; have f2 := c2.fz 0; have f3 := c2.fz 1; have f4 := c2.fz 2; have l0 := c0.lt; have g0 := c0.fz 0; have g1 := c0.fz 1; have g2 := c0.fz 2; have p0 := c3.c0; have p1 := c3.c1) | fail)
      obtain ⟨hs1, hs2, hs3⟩ := HS.out
      have d0 := c0.set 0 (by simp) (.slice sa n sc)
      have d1 := c1.far (b' := w.heap.size) (k := 0) (.slice sa n sc) (by omega)
      have d2 := c2.far (b' := w.heap.size) (k := 0) (.slice sa n sc) (by omega)
      have d3 := c3.far (b' := w.heap.size) (k := 0) (.slice sa n sc) (by omega)
      have hL6 := lq_set hO5.lq (b := w.heap.size) (k := 0) (.slice sa n sc) (by omega)
      have hB6 := hB5.setCell (p := ⟨w.heap.size, 0, none⟩) (Nat.le_refl _) (.slice sa n sc)
      skip
      clear c0 c1 c2 c3 hO5 hB5
      clear x0 x1 x2 y0 y1 y2 y3 y4 f0 f1 f2 f3 f4
      clear l0 g0 g1 g2
      clear p0 p1
      have hs5 := d0.lt
      rw [size_set] at hs5
      have hsz : (w5.setCell ⟨w.heap.size, 0, none⟩ (.slice sa n sc)).heap.size = w5.heap.size := size_set _ _ _
      rw [← hsz] at hL6
      clear hsz hs5
      generalize w5.setCell ⟨w.heap.size, 0, none⟩ (.slice sa n sc) = w6 at *
      have c0 := d0
      have c1 := d1
      have c2 := d2
      have c3 := d3
      clear d0 d1 d2 d3
      have x0 := c0.c0
      have x1 := c0.c1
      have x2 := c0.c2
      have y0 := c1.c0
      have y1 := c1.c1
      have y2 := c2.c0
      have y3 := c2.c1
      have y4 := c2.c2
      have f0 := c1.fz 0
      have f1 := c1.fz 1
      have f2 := c2.fz 0
      have f3 := c2.fz 1
      have f4 := c2.fz 2
      have l0 := c0.lt
      have g0 := c0.fz 0
      have g1 := c0.fz 1
      have g2 := c0.fz 2
      have p0 := c3.c0
      have p1 := c3.c1
      clear hs1 hs2 hs3
      go_region
      go_wp2_with fail
      obtain ⟨hs1, hs2, hs3⟩ := HS.out
      obtain ⟨r1, r2, r3, r4⟩ := five_end (w0 := w) c1 c2 (by omega) hL6 (by omega) (by omega) (by omega) hB6 (by omega) (by omega) (.int .i64 (j : Int)) (.int .i64 (f j)) (.slice sa n sc) (.int .i64 k) (.int .i64 (t + 1))
      refine ret_send Try.results19 rfl rfl r1 r2 rfl ?_
      exact ⟨ansSn_yes HQ.out HJ.out.symm (by rw [HJ.out]; rfl) HT.out r3, r4⟩
    · have HT : Hid (0 = snT t) := (if_neg ht).symm
      have d0 : Bx ((w2.setCell ⟨w.heap.size, 2, none⟩ (.int .i64 (t + 1))).setCell ⟨w.heap.size, 2, none⟩ (.int .i64 0)) w.heap.size (snL (some ⟨b, 0, none⟩) n c k 0) := (c0.set 2 (by simp) (.int .i64 (t + 1))).set 2 (by simp) _
      have d1 := (c1.far (b' := w.heap.size) (k := 2) (.int .i64 (t + 1)) (by omega)).far (b' := w.heap.size) (k := 2) (.int .i64 0) (by omega)
      have d2 := (c2.far (b' := w.heap.size) (k := 2) (.int .i64 (t + 1)) (by omega)).far (b' := w.heap.size) (k := 2) (.int .i64 0) (by omega)
      have hB3 := (hB2.setCell (p := ⟨w.heap.size, 2, none⟩) (Nat.le_refl _) (.int .i64 (t + 1))).setCell (p := ⟨w.heap.size, 2, none⟩) (Nat.le_refl _) (.int .i64 0)
      clear c0 c1 c2 hB2
      have c0 := d0
      have c1 := d1
      have c2 := d2
      clear d0 d1 d2
      go_upto_region 10 with fail
      clear x0 x1 x2 y0 y1 y2 y3 y4 f0 f1 f2 f3 f4
      clear l0 g0 g1 g2
      generalize (w2.setCell ⟨w.heap.size, 2, none⟩ (.int .i64 (t + 1))).setCell ⟨w.heap.size, 2, none⟩ (.int .i64 0) = wT at *
      have x0 := c0.c0
      have x1 := c0.c1
      have x2 := c0.c2
      have y0 := c1.c0
      have y1 := c1.c1
      have y2 := c2.c0
      have y3 := c2.c1
      have y4 := c2.c2
      have f0 := c1.fz 0
      have f1 := c1.fz 1
      have f2 := c2.fz 0
      have f3 := c2.fz 1
      have f4 := c2.fz 2
      have l0 := c0.lt
      have g0 := c0.fz 0
      have g1 := c0.fz 1
      have g2 := c0.fz 2
      have hf3 := hf.below hB3
      have hcj3 := (hB3.cell (p := ⟨b, j, none⟩) hbl).trans hcj
      go_upto_region 11 with fail
      have hb4 : Below wT.heap.size wT (wT.alloc (.cells #[.int .i64 (j : Int), .int .i64 (f j)] 43)) := (Below.refl _ _).alloc (Nat.le_refl _) _
      have c3 := bx_new (b := wT.heap.size) (w := wT) [.int .i64 (j : Int), .int .i64 (f j)] 43 rfl
      have hp3 : w.heap.size + 2 < wT.heap.size := c2.lt
      have d0 := c0.on hb4
      have d1 := c1.on hb4
      have d2 := c2.on hb4
      have hB4 := stepA hB3 hb4
      clear c0 c1 c2 hb4 hB3
      have c0 := d0
      have c1 := d1
      have c2 := d2
      clear d0 d1 d2
      clear x0 x1 x2 y0 y1 y2 y3 y4 f0 f1 f2 f3 f4
      clear l0 g0 g1 g2
      clear hcj3 hf3
      generalize hwP : wT.heap.size = pb at *
      generalize wT.alloc (.cells #[.int .i64 (j : Int), .int .i64 (f j)] 43) = wP at *
      clear hwP
      have x0 := c0.c0
      have x1 := c0.c1
      have x2 := c0.c2
      have y0 := c1.c0
      have y1 := c1.c1
      have y2 := c2.c0
      have y3 := c2.c1
      have y4 := c2.c2
      have f0 := c1.fz 0
      have f1 := c1.fz 1
      have f2 := c2.fz 0
      have f3 := c2.fz 1
      have f4 := c2.fz 2
      have l0 := c0.lt
      have g0 := c0.fz 0
      have g1 := c0.fz 1
      have g2 := c0.fz 2
      have p0 := c3.c0
      have p1 := c3.c1
      have HS : Hid (w.heap.size + 2 < wP.heap.size ∧ pb < wP.heap.size ∧ w.heap.size + 2 < pb) := ⟨c2.lt, c3.lt, hp3⟩
      have hnw := il_news ((hf.below hB4).alloc (.cells #[] 3))
      go_upto_region 12 with (first | (at_builtin; refine wpList_append_own _ rfl _ _ 32 rfl wP.heap.size 3 i0 (.int .i64 0) 1 8 Try.underlying32 hi hz0 hz1 hz2 rfl (by decide) _ _ _ rfl (own_new0 wP wP.heap.size (fun _ => 0) (Nat.le_refl _)) ⟨b, 0, none⟩ n c (vL f n) rfl (by rw [vL_len, Nat.mul_one]) hnw (vL_one f n) (by unfold maxLen; omega) (by omega) (by simp) ?_; intro v5 w5 hown5 hgrow5 _; have hO5 := own_app0 hown5; obtain ⟨sa, sc, rfl⟩ := hO5.shape; have hb5 : Below wP.heap.size wP w5 := ((Below.refl wP.heap.size wP).alloc (Nat.le_refl _) _).grown hgrow5 (by simp) (fun q hq => by simp [Value.ownBlock, Act.eval] at hq; omega); have d3 := c3.on hb5; have d0 := c0.on hb5; have d1 := c1.on hb5; have d2 := c2.on hb5; have hB5 := stepA hB4 hb5; clear c0 c1 c2 hb5 hB4; have c0 := d0; have c1 := d1; have c2 := d2; clear d0 d1 d2; clear c3; have c3 := d3; clear d3 hown5 hgrow5; clear x0 x1 x2 y0 y1 y2 y3 y4 f0 f1 f2 f3 f4; clear l0 g0 g1 g2; clear p0 p1 hnw; have x0 := c0.c0; have x1 := c0.c1; have x2 := c0.c2; have y0 := c1.c0; have y1 := c1.c1; have y2 := c2.c0; have y3 := c2.c1; have y4 := c2.c2; have f0 := c1.fz 0; have f1 := c1.fz 1; have f2 := c2.fz 0; have f3 := c2.fz 1; have f4 := c2.fz 2; have l0 := c0.lt; have g0 := c0.fz 0; have g1 := c0.fz 1; have g2 := c0.fz 2; have p0 := c3.c0; have p1 := c3.c1) | fail)
      obtain ⟨hs1, hs2, hs3⟩ := HS.out
      have d0 := c0.set 0 (by simp) (.slice sa n sc)
      have d1 := c1.far (b' := w.heap.size) (k := 0) (.slice sa n sc) (by omega)
      have d2 := c2.far (b' := w.heap.size) (k := 0) (.slice sa n sc) (by omega)
      have d3 := c3.far (b' := w.heap.size) (k := 0) (.slice sa n sc) (by omega)
      have hL6 := lq_set hO5.lq (b := w.heap.size) (k := 0) (.slice sa n sc) (by omega)
      have hB6 := hB5.setCell (p := ⟨w.heap.size, 0, none⟩) (Nat.le_refl _) (.slice sa n sc)
      skip
      clear c0 c1 c2 c3 hO5 hB5
      clear x0 x1 x2 y0 y1 y2 y3 y4 f0 f1 f2 f3 f4
      clear l0 g0 g1 g2
      clear p0 p1
      have hs5 := d0.lt
      rw [size_set] at hs5
      have hsz : (w5.setCell ⟨w.heap.size, 0, none⟩ (.slice sa n sc)).heap.size = w5.heap.size := size_set _ _ _
      rw [← hsz] at hL6
      clear hsz hs5
      generalize w5.setCell ⟨w.heap.size, 0, none⟩ (.slice sa n sc) = w6 at *
      have c0 := d0
      have c1 := d1
      have c2 := d2
      have c3 := d3
      clear d0 d1 d2 d3
      have x0 := c0.c0
      have x1 := c0.c1
      have x2 := c0.c2
      have y0 := c1.c0
      have y1 := c1.c1
      have y2 := c2.c0
      have y3 := c2.c1
      have y4 := c2.c2
      have f0 := c1.fz 0
      have f1 := c1.fz 1
      have f2 := c2.fz 0
      have f3 := c2.fz 1
      have f4 := c2.fz 2
      have l0 := c0.lt
      have g0 := c0.fz 0
      have g1 := c0.fz 1
      have g2 := c0.fz 2
      have p0 := c3.c0
      have p1 := c3.c1
      clear hs1 hs2 hs3
      go_region
      go_wp2_with fail
      obtain ⟨hs1, hs2, hs3⟩ := HS.out
      obtain ⟨r1, r2, r3, r4⟩ := five_end (w0 := w) c1 c2 (by omega) hL6 (by omega) (by omega) (by omega) hB6 (by omega) (by omega) (.int .i64 (j : Int)) (.int .i64 (f j)) (.slice sa n sc) (.int .i64 k) (.int .i64 0)
      refine ret_send Try.results19 rfl rfl r1 r2 rfl ?_
      exact ⟨ansSn_yes HQ.out HJ.out.symm (by rw [HJ.out]; rfl) HT.out r3, r4⟩
  · rw [if_neg hdn] at hMd
    rw [hMd] at hKd hM
    clear hMd
    have jm : (((n : Int) - k) == 0) = false := by simp; omega
    have jz : ¬ ((n : Int) - k) = 0 := by omega
    go_enter Try.func19, Try.ntmps19
    go_wp2_with fail
    refine (sSender (some ⟨b, 0, none⟩) n c k t _).mono ?_
    rintro e w1 ⟨rfl, hb1⟩
    rw [hg]
    have d0 := c0.on hb1
    have d1 := c1.on hb1
    have d2 := c2.on hb1
    have hB1 := stepA hB0 hb1
    clear x0 x1 x2 y0 y1 y2 y3 y4 f0 f1 f2 f3 f4
    clear c0 c1 c2 hb1 hB0
    have c0 := d0
    have c1 := d1
    have c2 := d2
    clear d0 d1 d2
    have x0 := c0.c0
    have x1 := c0.c1
    have x2 := c0.c2
    have y0 := c1.c0
    have y1 := c1.c1
    have y2 := c2.c0
    have y3 := c2.c1
    have y4 := c2.c2
    have f0 := c1.fz 0
    have f1 := c1.fz 1
    have f2 := c2.fz 0
    have f3 := c2.fz 1
    have f4 := c2.fz 2
    clear hfj
    go_upto_region 6 with fail
    go_quiet (fail)
    have hq9 : Below w1.heap.size w1 (w1.drewN nq) := below_dr (Below.refl _ _) nq
    have d0 := c0.on hq9
    have d1 := c1.on hq9
    have d2 := c2.on hq9
    have hB2 := stepA hB1 hq9
    clear c0 c1 c2 hq9 hB1
    have c0 := d0
    have c1 := d1
    have c2 := d2
    clear d0 d1 d2
    clear x0 x1 x2 y0 y1 y2 y3 y4 f0 f1 f2 f3 f4
    generalize w1.drewN nq = w2 at *
    clear hKd
    have x0 := c0.c0
    have x1 := c0.c1
    have x2 := c0.c2
    have y0 := c1.c0
    have y1 := c1.c1
    have y2 := c2.c0
    have y3 := c2.c1
    have y4 := c2.c2
    have f0 := c1.fz 0
    have f1 := c1.fz 1
    have f2 := c2.fz 0
    have f3 := c2.fz 1
    have f4 := c2.fz 2
    have l0 := c0.lt
    have g0 := c0.fz 0
    have g1 := c0.fz 1
    have g2 := c0.fz 2
    by_cases ht : t + 1 < 30
    · have HT : Hid (t + 1 = snT t) := (if_pos ht).symm
      have d0 : Bx (w2.setCell ⟨w.heap.size, 2, none⟩ (.int .i64 (t + 1))) w.heap.size (snL (some ⟨b, 0, none⟩) n c k (t + 1)) := c0.set 2 (by simp) _
      have d1 := c1.far (b' := w.heap.size) (k := 2) (.int .i64 (t + 1)) (by omega)
      have d2 := c2.far (b' := w.heap.size) (k := 2) (.int .i64 (t + 1)) (by omega)
      have hB3 := hB2.setCell (p := ⟨w.heap.size, 2, none⟩) (Nat.le_refl _) (.int .i64 (t + 1))
      clear c0 c1 c2 hB2
      have c0 := d0
      have c1 := d1
      have c2 := d2
      clear d0 d1 d2
      go_upto_region 10 with fail
      clear x0 x1 x2 y0 y1 y2 y3 y4 f0 f1 f2 f3 f4
      clear l0 g0 g1 g2
      generalize w2.setCell ⟨w.heap.size, 2, none⟩ (.int .i64 (t + 1)) = wT at *
      have x0 := c0.c0
      have x1 := c0.c1
      have x2 := c0.c2
      have y0 := c1.c0
      have y1 := c1.c1
      have y2 := c2.c0
      have y3 := c2.c1
      have y4 := c2.c2
      have f0 := c1.fz 0
      have f1 := c1.fz 1
      have f2 := c2.fz 0
      have f3 := c2.fz 1
      have f4 := c2.fz 2
      have l0 := c0.lt
      have g0 := c0.fz 0
      have g1 := c0.fz 1
      have g2 := c0.fz 2
      have hf3 := hf.below hB3
      have hcj3 := (hB3.cell (p := ⟨b, j, none⟩) hbl).trans hcj
      go_upto_region 11 with fail
      have hb4 : Below wT.heap.size wT (wT.alloc (.cells #[.int .i64 (j : Int), .int .i64 (f j)] 43)) := (Below.refl _ _).alloc (Nat.le_refl _) _
      have c3 := bx_new (b := wT.heap.size) (w := wT) [.int .i64 (j : Int), .int .i64 (f j)] 43 rfl
      have hp3 : w.heap.size + 2 < wT.heap.size := c2.lt
      have d0 := c0.on hb4
      have d1 := c1.on hb4
      have d2 := c2.on hb4
      have hB4 := stepA hB3 hb4
      clear c0 c1 c2 hb4 hB3
      have c0 := d0
      have c1 := d1
      have c2 := d2
      clear d0 d1 d2
      clear x0 x1 x2 y0 y1 y2 y3 y4 f0 f1 f2 f3 f4
      clear l0 g0 g1 g2
      clear hcj3 hf3
      generalize hwP : wT.heap.size = pb at *
      generalize wT.alloc (.cells #[.int .i64 (j : Int), .int .i64 (f j)] 43) = wP at *
      clear hwP
      have x0 := c0.c0
      have x1 := c0.c1
      have x2 := c0.c2
      have y0 := c1.c0
      have y1 := c1.c1
      have y2 := c2.c0
      have y3 := c2.c1
      have y4 := c2.c2
      have f0 := c1.fz 0
      have f1 := c1.fz 1
      have f2 := c2.fz 0
      have f3 := c2.fz 1
      have f4 := c2.fz 2
      have l0 := c0.lt
      have g0 := c0.fz 0
      have g1 := c0.fz 1
      have g2 := c0.fz 2
      have p0 := c3.c0
      have p1 := c3.c1
      have HS : Hid (w.heap.size + 2 < wP.heap.size ∧ pb < wP.heap.size ∧ w.heap.size + 2 < pb) := ⟨c2.lt, c3.lt, hp3⟩
      have hnw := il_news ((hf.below hB4).alloc (.cells #[] 3))
      go_upto_region 12 with (first | (at_builtin; refine wpList_append_own _ rfl _ _ 32 rfl wP.heap.size 3 i0 (.int .i64 0) 1 8 Try.underlying32 hi hz0 hz1 hz2 rfl (by decide) _ _ _ rfl (own_new0 wP wP.heap.size (fun _ => 0) (Nat.le_refl _)) ⟨b, 0, none⟩ n c (vL f n) rfl (by rw [vL_len, Nat.mul_one]) hnw (vL_one f n) (by unfold maxLen; omega) (by omega) (by simp) ?_; intro v5 w5 hown5 hgrow5 _; have hO5 := own_app0 hown5; obtain ⟨sa, sc, rfl⟩ := hO5.shape; have hb5 : Below wP.heap.size wP w5 := ((Below.refl wP.heap.size wP).alloc (Nat.le_refl _) _).grown hgrow5 (by simp) (fun q hq => by simp [Value.ownBlock, Act.eval] at hq; omega); have d3 := c3.on hb5; have d0 := c0.on hb5; have d1 := c1.on hb5; have d2 := c2.on hb5; have hB5 := stepA hB4 hb5; clear c0 c1 c2 hb5 hB4; have c0 := d0; have c1 := d1; have c2 := d2; clear d0 d1 d2; clear c3; have c3 := d3; clear d3 hown5 hgrow5; clear x0 x1 x2 y0 y1 y2 y3 y4 f0 f1 f2 f3 f4; clear l0 g0 g1 g2; clear p0 p1 hnw; have x0 := c0.c0; have x1 := c0.c1; have x2 := c0.c2; have y0 := c1.c0; have y1 := c1.c1; have y2 := c2.c0; have y3 := c2.c1; have y4 := c2.c2; have f0 := c1.fz 0; have f1 := c1.fz 1; have f2 := c2.fz 0; have f3 := c2.fz 1; have f4 := c2.fz 2; have l0 := c0.lt; have g0 := c0.fz 0; have g1 := c0.fz 1; have g2 := c0.fz 2; have p0 := c3.c0; have p1 := c3.c1) | fail)
      obtain ⟨hs1, hs2, hs3⟩ := HS.out
      have d0 := c0.set 0 (by simp) (.slice sa n sc)
      have d1 := c1.far (b' := w.heap.size) (k := 0) (.slice sa n sc) (by omega)
      have d2 := c2.far (b' := w.heap.size) (k := 0) (.slice sa n sc) (by omega)
      have d3 := c3.far (b' := w.heap.size) (k := 0) (.slice sa n sc) (by omega)
      have hL6 := lq_set hO5.lq (b := w.heap.size) (k := 0) (.slice sa n sc) (by omega)
      have hB6 := hB5.setCell (p := ⟨w.heap.size, 0, none⟩) (Nat.le_refl _) (.slice sa n sc)
      skip
      clear c0 c1 c2 c3 hO5 hB5
      clear x0 x1 x2 y0 y1 y2 y3 y4 f0 f1 f2 f3 f4
      clear l0 g0 g1 g2
      clear p0 p1
      have hs5 := d0.lt
      rw [size_set] at hs5
      have hsz : (w5.setCell ⟨w.heap.size, 0, none⟩ (.slice sa n sc)).heap.size = w5.heap.size := size_set _ _ _
      rw [← hsz] at hL6
      clear hsz hs5
      generalize w5.setCell ⟨w.heap.size, 0, none⟩ (.slice sa n sc) = w6 at *
      have c0 := d0
      have c1 := d1
      have c2 := d2
      have c3 := d3
      clear d0 d1 d2 d3
      have x0 := c0.c0
      have x1 := c0.c1
      have x2 := c0.c2
      have y0 := c1.c0
      have y1 := c1.c1
      have y2 := c2.c0
      have y3 := c2.c1
      have y4 := c2.c2
      have f0 := c1.fz 0
      have f1 := c1.fz 1
      have f2 := c2.fz 0
      have f3 := c2.fz 1
      have f4 := c2.fz 2
      have l0 := c0.lt
      have g0 := c0.fz 0
      have g1 := c0.fz 1
      have g2 := c0.fz 2
      have p0 := c3.c0
      have p1 := c3.c1
      clear hs1 hs2 hs3
      go_region
      go_wp2_with fail
      obtain ⟨hs1, hs2, hs3⟩ := HS.out
      obtain ⟨r1, r2, r3, r4⟩ := five_end (w0 := w) c1 c2 (by omega) hL6 (by omega) (by omega) (by omega) hB6 (by omega) (by omega) (.int .i64 (j : Int)) (.int .i64 (f j)) (.slice sa n sc) (.int .i64 k) (.int .i64 (t + 1))
      refine ret_send Try.results19 rfl rfl r1 r2 rfl ?_
      exact ⟨ansSn_yes HQ.out HJ.out.symm (by rw [HJ.out]; rfl) HT.out r3, r4⟩
    · have HT : Hid (0 = snT t) := (if_neg ht).symm
      have d0 : Bx ((w2.setCell ⟨w.heap.size, 2, none⟩ (.int .i64 (t + 1))).setCell ⟨w.heap.size, 2, none⟩ (.int .i64 0)) w.heap.size (snL (some ⟨b, 0, none⟩) n c k 0) := (c0.set 2 (by simp) (.int .i64 (t + 1))).set 2 (by simp) _
      have d1 := (c1.far (b' := w.heap.size) (k := 2) (.int .i64 (t + 1)) (by omega)).far (b' := w.heap.size) (k := 2) (.int .i64 0) (by omega)
      have d2 := (c2.far (b' := w.heap.size) (k := 2) (.int .i64 (t + 1)) (by omega)).far (b' := w.heap.size) (k := 2) (.int .i64 0) (by omega)
      have hB3 := (hB2.setCell (p := ⟨w.heap.size, 2, none⟩) (Nat.le_refl _) (.int .i64 (t + 1))).setCell (p := ⟨w.heap.size, 2, none⟩) (Nat.le_refl _) (.int .i64 0)
      clear c0 c1 c2 hB2
      have c0 := d0
      have c1 := d1
      have c2 := d2
      clear d0 d1 d2
      go_upto_region 10 with fail
      clear x0 x1 x2 y0 y1 y2 y3 y4 f0 f1 f2 f3 f4
      clear l0 g0 g1 g2
      generalize (w2.setCell ⟨w.heap.size, 2, none⟩ (.int .i64 (t + 1))).setCell ⟨w.heap.size, 2, none⟩ (.int .i64 0) = wT at *
      have x0 := c0.c0
      have x1 := c0.c1
      have x2 := c0.c2
      have y0 := c1.c0
      have y1 := c1.c1
      have y2 := c2.c0
      have y3 := c2.c1
      have y4 := c2.c2
      have f0 := c1.fz 0
      have f1 := c1.fz 1
      have f2 := c2.fz 0
      have f3 := c2.fz 1
      have f4 := c2.fz 2
      have l0 := c0.lt
      have g0 := c0.fz 0
      have g1 := c0.fz 1
      have g2 := c0.fz 2
      have hf3 := hf.below hB3
      have hcj3 := (hB3.cell (p := ⟨b, j, none⟩) hbl).trans hcj
      go_upto_region 11 with fail
      have hb4 : Below wT.heap.size wT (wT.alloc (.cells #[.int .i64 (j : Int), .int .i64 (f j)] 43)) := (Below.refl _ _).alloc (Nat.le_refl _) _
      have c3 := bx_new (b := wT.heap.size) (w := wT) [.int .i64 (j : Int), .int .i64 (f j)] 43 rfl
      have hp3 : w.heap.size + 2 < wT.heap.size := c2.lt
      have d0 := c0.on hb4
      have d1 := c1.on hb4
      have d2 := c2.on hb4
      have hB4 := stepA hB3 hb4
      clear c0 c1 c2 hb4 hB3
      have c0 := d0
      have c1 := d1
      have c2 := d2
      clear d0 d1 d2
      clear x0 x1 x2 y0 y1 y2 y3 y4 f0 f1 f2 f3 f4
      clear l0 g0 g1 g2
      clear hcj3 hf3
      generalize hwP : wT.heap.size = pb at *
      generalize wT.alloc (.cells #[.int .i64 (j : Int), .int .i64 (f j)] 43) = wP at *
      clear hwP
      have x0 := c0.c0
      have x1 := c0.c1
      have x2 := c0.c2
      have y0 := c1.c0
      have y1 := c1.c1
      have y2 := c2.c0
      have y3 := c2.c1
      have y4 := c2.c2
      have f0 := c1.fz 0
      have f1 := c1.fz 1
      have f2 := c2.fz 0
      have f3 := c2.fz 1
      have f4 := c2.fz 2
      have l0 := c0.lt
      have g0 := c0.fz 0
      have g1 := c0.fz 1
      have g2 := c0.fz 2
      have p0 := c3.c0
      have p1 := c3.c1
      have HS : Hid (w.heap.size + 2 < wP.heap.size ∧ pb < wP.heap.size ∧ w.heap.size + 2 < pb) := ⟨c2.lt, c3.lt, hp3⟩
      have hnw := il_news ((hf.below hB4).alloc (.cells #[] 3))
      go_upto_region 12 with (first | (at_builtin; refine wpList_append_own _ rfl _ _ 32 rfl wP.heap.size 3 i0 (.int .i64 0) 1 8 Try.underlying32 hi hz0 hz1 hz2 rfl (by decide) _ _ _ rfl (own_new0 wP wP.heap.size (fun _ => 0) (Nat.le_refl _)) ⟨b, 0, none⟩ n c (vL f n) rfl (by rw [vL_len, Nat.mul_one]) hnw (vL_one f n) (by unfold maxLen; omega) (by omega) (by simp) ?_; intro v5 w5 hown5 hgrow5 _; have hO5 := own_app0 hown5; obtain ⟨sa, sc, rfl⟩ := hO5.shape; have hb5 : Below wP.heap.size wP w5 := ((Below.refl wP.heap.size wP).alloc (Nat.le_refl _) _).grown hgrow5 (by simp) (fun q hq => by simp [Value.ownBlock, Act.eval] at hq; omega); have d3 := c3.on hb5; have d0 := c0.on hb5; have d1 := c1.on hb5; have d2 := c2.on hb5; have hB5 := stepA hB4 hb5; clear c0 c1 c2 hb5 hB4; have c0 := d0; have c1 := d1; have c2 := d2; clear d0 d1 d2; clear c3; have c3 := d3; clear d3 hown5 hgrow5; clear x0 x1 x2 y0 y1 y2 y3 y4 f0 f1 f2 f3 f4; clear l0 g0 g1 g2; clear p0 p1 hnw; have x0 := c0.c0; have x1 := c0.c1; have x2 := c0.c2; have y0 := c1.c0; have y1 := c1.c1; have y2 := c2.c0; have y3 := c2.c1; have y4 := c2.c2; have f0 := c1.fz 0; have f1 := c1.fz 1; have f2 := c2.fz 0; have f3 := c2.fz 1; have f4 := c2.fz 2; have l0 := c0.lt; have g0 := c0.fz 0; have g1 := c0.fz 1; have g2 := c0.fz 2; have p0 := c3.c0; have p1 := c3.c1) | fail)
      obtain ⟨hs1, hs2, hs3⟩ := HS.out
      have d0 := c0.set 0 (by simp) (.slice sa n sc)
      have d1 := c1.far (b' := w.heap.size) (k := 0) (.slice sa n sc) (by omega)
      have d2 := c2.far (b' := w.heap.size) (k := 0) (.slice sa n sc) (by omega)
      have d3 := c3.far (b' := w.heap.size) (k := 0) (.slice sa n sc) (by omega)
      have hL6 := lq_set hO5.lq (b := w.heap.size) (k := 0) (.slice sa n sc) (by omega)
      have hB6 := hB5.setCell (p := ⟨w.heap.size, 0, none⟩) (Nat.le_refl _) (.slice sa n sc)
      skip
      clear c0 c1 c2 c3 hO5 hB5
      clear x0 x1 x2 y0 y1 y2 y3 y4 f0 f1 f2 f3 f4
      clear l0 g0 g1 g2
      clear p0 p1
      have hs5 := d0.lt
      rw [size_set] at hs5
      have hsz : (w5.setCell ⟨w.heap.size, 0, none⟩ (.slice sa n sc)).heap.size = w5.heap.size := size_set _ _ _
      rw [← hsz] at hL6
      clear hsz hs5
      generalize w5.setCell ⟨w.heap.size, 0, none⟩ (.slice sa n sc) = w6 at *
      have c0 := d0
      have c1 := d1
      have c2 := d2
      have c3 := d3
      clear d0 d1 d2 d3
      have x0 := c0.c0
      have x1 := c0.c1
      have x2 := c0.c2
      have y0 := c1.c0
      have y1 := c1.c1
      have y2 := c2.c0
      have y3 := c2.c1
      have y4 := c2.c2
      have f0 := c1.fz 0
      have f1 := c1.fz 1
      have f2 := c2.fz 0
      have f3 := c2.fz 1
      have f4 := c2.fz 2
      have l0 := c0.lt
      have g0 := c0.fz 0
      have g1 := c0.fz 1
      have g2 := c0.fz 2
      have p0 := c3.c0
      have p1 := c3.c1
      clear hs1 hs2 hs3
      go_region
      go_wp2_with fail
      obtain ⟨hs1, hs2, hs3⟩ := HS.out
      obtain ⟨r1, r2, r3, r4⟩ := five_end (w0 := w) c1 c2 (by omega) hL6 (by omega) (by omega) (by omega) hB6 (by omega) (by omega) (.int .i64 (j : Int)) (.int .i64 (f j)) (.slice sa n sc) (.int .i64 k) (.int .i64 0)
      refine ret_send Try.results19 rfl rfl r1 r2 rfl ?_
      exact ⟨ansSn_yes HQ.out HJ.out.symm (by rw [HJ.out]; rfl) HT.out r3, r4⟩
end Go.Proofs.Ytbhfkhlhfpmkmaa
