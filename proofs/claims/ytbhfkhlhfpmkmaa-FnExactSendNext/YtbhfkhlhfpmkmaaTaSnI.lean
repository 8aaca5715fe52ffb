/- What a sender sends next, as the program says it (tools/gen_tasn2.py). -/
import Derived.Test.YtbhfkhlhfpmkmaaTaSnB
import Derived.Test.YtbhfkhlhfpmkmaaTaSnNI
import Derived.Test.YtbhfkhlhfpmkmaaRyClone
import Derived.Deep.RegionHeld3
import Derived.Deep.CutRange
import Derived.BigRegion
import Derived.BigQuiet
namespace Go.Proofs.Ytbhfkhlhfpmkmaa
open Go.RowKit
/-- what stands behind the region in which the next sender is made -/
def CutN (w3 wx : World) (s8 : Value) (n : Nat) (f : Nat → Int) (k T : Int) : Prop := ∃ (g : Nat) (ta : Option Addr) (tc lo hi : Nat), s8 = .pointer (some ⟨g, 0, none⟩) ∧ w3.heap.size ≤ g ∧ Bx wx g (snL ta n tc k T) ∧ LQ wx lo hi ta n f ∧ (g < lo ∨ hi ≤ g) ∧ w3.heap.size ≤ lo ∧ hi ≤ wx.heap.size ∧ Below w3.heap.size w3 wx
theorem cutn_after {w3 w4 : World} {ta : Option Addr} {n tc : Nat} {f : Nat → Int} {k T : Int} (hO : Own w4 w3.heap.size (.slice ta n tc) n f) (hw : Below w3.heap.size w3 w4) :
    CutN w3 (w4.alloc (snO ta n tc k T 44)) (.pointer (some ⟨w4.heap.size, 0, none⟩)) n f k T :=
  ⟨w4.heap.size, ta, tc, w3.heap.size, w4.heap.size, rfl, hw.size, bx_new (snL ta n tc k T) _ rfl, hO.lq.on ((Below.refl _ _).alloc (Nat.le_refl _) _), .inr (Nat.le_refl _), Nat.le_refl _, by rw [size_al]; omega, hw.alloc hw.size _⟩
theorem cutn_ahead {w3 w4 : World} {o : Obj} {ta : Option Addr} {n tc : Nat} {f : Nat → Int} {k T : Int} (nb : Bx w4 w3.heap.size (snL none 0 0 0 0)) (hO : Own w4 (w3.alloc o).heap.size (.slice ta n tc) n f) (hw : Below w3.heap.size w3 w4) :
    CutN w3 (((w4.setCell ⟨w3.heap.size, 0, none⟩ (.slice ta n tc)).setCell ⟨w3.heap.size, 1, none⟩ (.int .i64 k)).setCell ⟨w3.heap.size, 2, none⟩ (.int .i64 T)) (.pointer (some ⟨w3.heap.size, 0, none⟩)) n f k T := by
  have hl := hO.lq
  rw [size_al] at hl
  exact ⟨w3.heap.size, ta, tc, w3.heap.size + 1, w4.heap.size, rfl, Nat.le_refl _, ((nb.set 0 (by simp) _).set 1 (by simp) _).set 2 (by simp) _, lq_set (lq_set (lq_set hl _ (by omega)) _ (by omega)) _ (by omega), .inl (by omega), by omega, by simp only [size_set]; exact Nat.le_refl _, ((hw.setCell (p := ⟨w3.heap.size, 0, none⟩) (Nat.le_refl _) _).setCell (p := ⟨w3.heap.size, 1, none⟩) (Nat.le_refl _) _).setCell (p := ⟨w3.heap.size, 2, none⟩) (Nat.le_refl _) _⟩
theorem keep_sn {w w' : World} {b0 : Nat} {u v x : Value} (h : Bx w b0 [u, v, x]) (k : Below w.heap.size w w') : w'.cell? ⟨b0, 0, none⟩ = some u ∧ w'.cell? ⟨b0, 1, none⟩ = some v ∧ w'.cell? ⟨b0, 2, none⟩ = some x := ⟨(h.on k).c0, (h.on k).c1, (h.on k).c2⟩
theorem below_three {B b : Nat} {w w1 : World} (h : Below B w w1) (hb : B ≤ b) (x y z : Value) : Below B w (((w1.setCell ⟨b, 0, none⟩ x).setCell ⟨b, 1, none⟩ y).setCell ⟨b, 2, none⟩ z) :=
  ((h.setCell (p := ⟨b, 0, none⟩) hb _).setCell (p := ⟨b, 1, none⟩) hb _).setCell (p := ⟨b, 2, none⟩) hb _
set_option maxRecDepth 20000 in
set_option maxHeartbeats 4000000 in
theorem iSend_yes (b n c : Nat) (k t d : Int) (f : Nat → Int) (w : World) (hq : snQ n k t d = true) (hf : IL w (some ⟨b, 0, none⟩) n f) :
    Calls Try.prog 21 #[snv (some ⟨b, 0, none⟩) n c k t, .int .i64 d] w fun e w' => AnsSn w w' e n f k t d ∧ Below w.heap.size w w' := by
  obtain ⟨i0, hi, hzz⟩ := Option.map_eq_some_iff.1 infoI
  simp only [Prod.mk.injEq] at hzz
  obtain ⟨hz0, hz1, hz2⟩ := hzz
  obtain ⟨c0, c1, c2, hB0⟩ := boxes_sn (some ⟨b, 0, none⟩) n c k t w
  have x0 := c0.c0
  have x1 := c0.c1
  have x2 := c0.c2
  have y0 := c1.c0
  have y1 := c1.c1
  have y2 := c2.c0
  have y3 := c2.c1
  have y4 := c2.c2
  have f0 := c1.fz 0
  have f1 := c1.fz 1
  have f2 := c2.fz 0
  have f3 := c2.fz 1
  have f4 := c2.fz 2
  have HQ : Hid (snQ n k t d = true) := hq
  have hM := snM_bd hq
  have hK := snK_bd hq
  have hq' := hq
  simp only [snQ, Bool.and_eq_true, decide_eq_true_eq, Bool.not_eq_true', decide_eq_false_iff_not] at hq'
  obtain ⟨⟨⟨hg, hk⟩, hd1⟩, hd2⟩ := hq'
  obtain ⟨hn0, hk0, hk1, ht0, ht1⟩ := gsB_parts hg
  have j1 : (k == (n : Int)) = false := by simp [hk]
  have j2 : ¬ d < 1 := by omega
  have j3 : ¬ 10 < d := by omega
  obtain ⟨j, hj⟩ : ∃ j : Nat, snK n k t d = (j : Int) := ⟨(snK n k t d).toNat, by omega⟩
  have HJ : Hid (snK n k t d = (j : Int)) := hj
  have hj1 : j < n := by omega
  obtain ⟨b', o', e, hbl, hcell⟩ := hf (by omega)
  cases e
  have hcj := hcell j hj1
  rw [Nat.zero_add] at hcj
  have hfj := hf.below hB0
  have hKd : k + t % snM n k d = (j : Int) := hj
  clear hq hcell hk hj
  have jk : decide (k = (n : Int)) = false := by simpa using j1
  have jd : dpB d = true := by simp [dpB, hd1, hd2]
  have hn1 : 1 ≤ n := by omega
  have hmin : min d ((n : Int) - k) = snM n k d := by unfold snM; split <;> omega
  have hcl := fun w h => clone_any (some ⟨b, 0, none⟩) n c f w h hn1 (by omega)
  go_enter Try.func21, Try.ntmps21
  go_wp2_with fail
  refine (iSender (some ⟨b, 0, none⟩) n c k t _).mono ?_
  rintro e w1 ⟨rfl, hb1⟩
  rw [hg]
  have d0 := c0.on hb1
  have d1 := c1.on hb1
  have d2 := c2.on hb1
  have hB1 := stepA hB0 hb1
  clear x0 x1 x2 y0 y1 y2 y3 y4 f0 f1 f2 f3 f4
  clear c0 c1 c2 hb1 hB0
  have c0 := d0
  have c1 := d1
  have c2 := d2
  clear d0 d1 d2
  have x0 := c0.c0
  have x1 := c0.c1
  have x2 := c0.c2
  have y0 := c1.c0
  have y1 := c1.c1
  have y2 := c2.c0
  have y3 := c2.c1
  have y4 := c2.c2
  have f0 := c1.fz 0
  have f1 := c1.fz 1
  have f2 := c2.fz 0
  have f3 := c2.fz 1
  have f4 := c2.fz 2
  go_wp2_with fail
  refine (iDone (some ⟨b, 0, none⟩) n c k t _).mono ?_
  rintro e w2 ⟨rfl, hb2⟩
  rw [jk]
  have d0 := c0.on hb2
  have d1 := c1.on hb2
  have d2 := c2.on hb2
  have hB2 := stepA hB1 hb2
  clear x0 x1 x2 y0 y1 y2 y3 y4 f0 f1 f2 f3 f4
  clear c0 c1 c2 hb2 hB1
  have c0 := d0
  have c1 := d1
  have c2 := d2
  clear d0 d1 d2
  have x0 := c0.c0
  have x1 := c0.c1
  have x2 := c0.c2
  have y0 := c1.c0
  have y1 := c1.c1
  have y2 := c2.c0
  have y3 := c2.c1
  have y4 := c2.c2
  have f0 := c1.fz 0
  have f1 := c1.fz 1
  have f2 := c2.fz 0
  have f3 := c2.fz 1
  have f4 := c2.fz 2
  go_wp2_with fail
  refine (goodDepth_any d _).mono ?_
  rintro e w9 ⟨rfl, hw9⟩
  have hs9 := hw9.symm
  clear hw9
  subst hs9
  rw [jd]
  clear hfj
  go_upto_region 3 with fail
  go_region
  have hq9 : Below w2.heap.size w2 w2.drew := (Below.refl _ _).drew
  have d0 := c0.on hq9
  have d1 := c1.on hq9
  have d2 := c2.on hq9
  have hB3 := stepA hB2 hq9
  clear c0 c1 c2 hq9 hB2
  have c0 := d0
  have c1 := d1
  have c2 := d2
  clear d0 d1 d2
  clear x0 x1 x2 y0 y1 y2 y3 y4 f0 f1 f2 f3 f4
  generalize w2.drew = w3 at *
  clear hKd
  have x0 := c0.c0
  have x1 := c0.c1
  have x2 := c0.c2
  have y0 := c1.c0
  have y1 := c1.c1
  have y2 := c2.c0
  have y3 := c2.c1
  have y4 := c2.c2
  have f0 := c1.fz 0
  have f1 := c1.fz 1
  have f2 := c2.fz 0
  have f3 := c2.fz 1
  have f4 := c2.fz 2
  have l0 := c0.lt
  have g0 := c0.fz 0
  have g1 := c0.fz 1
  have g2 := c0.fz 2
  go_upto_region 4 with fail
  have hf3 := hf.below hB3
  have hw0 := Below.refl w3.heap.size w3
  have hwr : IntKind.i64.wrap (t + 1) = t + 1 := IntWalk.i64_in _ (by omega)
  go_cut [8] from 37 to 45 (fun s8 wx => CutN w3 wx s8 n f k (t + 1))
  case first =>
    go_region_held3 (fun w' => w'.cell? ⟨w.heap.size, 0, none⟩ = some (.slice (some ⟨b, 0, none⟩) n c) ∧ w'.cell? ⟨w.heap.size, 1, none⟩ = some (.int .i64 k) ∧ w'.cell? ⟨w.heap.size, 2, none⟩ = some (.int .i64 t))
      (first | (exact keep_sn c0 hw0.drew) | (exact keep_sn c0 hw4) | (exact keep_sn c0 ((hw0.alloc (Nat.le_refl _) _).drew)) | (exact keep_sn c0 (hw4.alloc hw4.size _)) | (exact keep_sn c0 (below_three hw4 hw0.size _ _ _)) | (exact keep_sn c0 (below_three hw4 (Nat.le_refl _) _ _ _)) | (fail))
      (first | (go_at_call 52; first | (refine (hcl _ (hf3.below hw0.drew)).mono ?_; rintro e w4 ⟨⟨ta, tc, rfl, hO⟩, hbn⟩; have hw4 := stepA hw0.drew hbn) | (refine (hcl _ (hf3.below ((hw0.alloc (Nat.le_refl _) (snO none 0 0 0 0 44)).drew))).mono ?_; rintro e w4 ⟨⟨ta, tc, rfl, hO⟩, hbn⟩; have hw4 := stepA ((hw0.alloc (Nat.le_refl _) (snO none 0 0 0 0 44)).drew) hbn; have nb := (bx_new (b := w3.heap.size) (w := w3) (snL none 0 0 0 0) 44 rfl).on ((Below.refl _ _).drew.trans hbn); have nb0 := nb.c0; have nb1 := nb.c1; have nb2 := nb.c2; have nf0 := nb.fz 0; have nf1 := nb.fz 1; have nf2 := nb.fz 2)) | (fail))
    all_goals
      go_wp2_with fail
      go_meet
      case rel => first | exact cutn_after hO hw4 | exact cutn_ahead nb hO hw4
  case rest =>
    obtain ⟨g, ta, tc, lo, hi_, rfl, hg1, c4, hL4, hgl, hlo, hhi, hb4⟩ := hcut
    have hp2 : w.heap.size + 2 < w3.heap.size := c2.lt
    have d0 := c0.on hb4
    have d1 := c1.on hb4
    have d2 := c2.on hb4
    have hB4 := stepA hB3 hb4
    clear c0 c1 c2 hb4 hB3
    have c0 := d0
    have c1 := d1
    have c2 := d2
    clear d0 d1 d2
    clear x0 x1 x2 y0 y1 y2 y3 y4 f0 f1 f2 f3 f4
    clear l0 g0 g1 g2
    clear hf3 hw0
    generalize wc = w4 at *
    by_cases ht : t + 1 < 30
    · have HT : Hid (t + 1 = snT t) := (if_pos ht).symm
      have d0 := c0
      have d1 := c1
      have d2 := c2
      have d4 := c4
      have hB5 := hB4
      have hL5 := hL4
      have q2 := c4.c2
      have qf := c4.fz 2
      go_upto_region 7 with fail
      clear q2 qf c0 c1 c2 c4 hB4 hL4
      have c0 := d0
      have c1 := d1
      have c2 := d2
      have c4 := d4
      clear d0 d1 d2 d4
      have hhi5 := hhi
      clear hhi
      generalize w4 = w5 at *
      have x0 := c0.c0
      have x1 := c0.c1
      have x2 := c0.c2
      have y0 := c1.c0
      have y1 := c1.c1
      have y2 := c2.c0
      have y3 := c2.c1
      have y4 := c2.c2
      have f0 := c1.fz 0
      have f1 := c1.fz 1
      have f2 := c2.fz 0
      have f3 := c2.fz 1
      have f4 := c2.fz 2
      have l0 := c0.lt
      have g0 := c0.fz 0
      have g1 := c0.fz 1
      have g2 := c0.fz 2
      have q0 := c4.c0
      have q1 := c4.c1
      have q2 := c4.c2
      have hcj5 := (hB5.cell (p := ⟨b, j, none⟩) hbl).trans hcj
      have HS : Hid (w.heap.size + 2 < lo ∧ w.heap.size ≤ lo) := by show _ ∧ _; omega
      have hL5 : LQ w5 lo w5.heap.size ta n f := hL5.wide (Nat.le_refl _) hhi5
      clear hhi5 hgl hlo
      go_region
      go_wp2_with fail
      obtain ⟨hs1, hs2⟩ := HS.out
      obtain ⟨r1, r2, r3, r4⟩ := five_end (w0 := w) c1 c2 (by omega) hL5 (by omega) (by omega) (by omega) hB5 (by omega) (by omega) (.int .i64 (j : Int)) (.int .i64 (f j)) (.slice ta n tc) (.int .i64 k) (.int .i64 (t + 1))
      refine ret_send Try.results21 rfl rfl r1 r2 rfl ?_
      exact ⟨ansSn_yes HQ.out HJ.out.symm (by rw [HJ.out]; rfl) HT.out r3, r4⟩
    · have HT : Hid (0 = snT t) := (if_neg ht).symm
      have d0 := c0.far (b' := g) (k := 2) (.int .i64 0) (by omega)
      have d1 := c1.far (b' := g) (k := 2) (.int .i64 0) (by omega)
      have d2 := c2.far (b' := g) (k := 2) (.int .i64 0) (by omega)
      have d4 : Bx (w4.setCell ⟨g, 2, none⟩ (.int .i64 0)) g (snL ta n tc k 0) := c4.set 2 (by simp) _
      have hB5 := hB4.setCell (p := ⟨g, 2, none⟩) (by show w.heap.size ≤ g; omega) (.int .i64 0)
      have hL5 := lq_set hL4 (b := g) (k := 2) (.int .i64 0) hgl
      have q2 := c4.c2
      have qf := c4.fz 2
      go_upto_region 7 with fail
      clear q2 qf c0 c1 c2 c4 hB4 hL4
      have c0 := d0
      have c1 := d1
      have c2 := d2
      have c4 := d4
      clear d0 d1 d2 d4
      have hhi5 : hi_ ≤ (w4.setCell ⟨g, 2, none⟩ (.int .i64 0)).heap.size := by rw [size_set]; exact hhi
      clear hhi
      generalize w4.setCell ⟨g, 2, none⟩ (.int .i64 0) = w5 at *
      have x0 := c0.c0
      have x1 := c0.c1
      have x2 := c0.c2
      have y0 := c1.c0
      have y1 := c1.c1
      have y2 := c2.c0
      have y3 := c2.c1
      have y4 := c2.c2
      have f0 := c1.fz 0
      have f1 := c1.fz 1
      have f2 := c2.fz 0
      have f3 := c2.fz 1
      have f4 := c2.fz 2
      have l0 := c0.lt
      have g0 := c0.fz 0
      have g1 := c0.fz 1
      have g2 := c0.fz 2
      have q0 := c4.c0
      have q1 := c4.c1
      have q2 := c4.c2
      have hcj5 := (hB5.cell (p := ⟨b, j, none⟩) hbl).trans hcj
      have HS : Hid (w.heap.size + 2 < lo ∧ w.heap.size ≤ lo) := by show _ ∧ _; omega
      have hL5 : LQ w5 lo w5.heap.size ta n f := hL5.wide (Nat.le_refl _) hhi5
      clear hhi5 hgl hlo
      go_region
      go_wp2_with fail
      obtain ⟨hs1, hs2⟩ := HS.out
      obtain ⟨r1, r2, r3, r4⟩ := five_end (w0 := w) c1 c2 (by omega) hL5 (by omega) (by omega) (by omega) hB5 (by omega) (by omega) (.int .i64 (j : Int)) (.int .i64 (f j)) (.slice ta n tc) (.int .i64 k) (.int .i64 0)
      refine ret_send Try.results21 rfl rfl r1 r2 rfl ?_
      exact ⟨ansSn_yes HQ.out HJ.out.symm (by rw [HJ.out]; rfl) HT.out r3, r4⟩
end Go.Proofs.Ytbhfkhlhfpmkmaa
