/- RunPlant, as the program takes it. -/
import Derived.Test.YthmjoeknkenfgaaHdPlM
namespace Go.Proofs.Ythmjoeknkenfgaa
open Go.RowKit

theorem ret_three {fn : Func} {t u v : Tmp} {R : Ending → World → Prop} {a : Act} {w : World} (e : fn.results = #[.tmp t, .tmp u, .tmp v]) (hd : a.defers = [])
    (hR : R (.returned (.tuple #[a.tmps.getD t undef, a.tmps.getD u undef, a.tmps.getD v undef])) w) : bodyPost Try.prog fn R .ret a w := by
  refine bodyPost_ret ?_ hd hR
  simp [results, e, go_sem]

set_option maxHeartbeats 4000000 in
set_option maxRecDepth 20000 in
theorem implPl_in (l : Lp) (m : Int) (a : Option Addr) (n c : Nat) (f : Nat → Int) (w : World) (hg : goodL l = true) (hm : 1 ≤ m ∧ m ≤ 1000) (hn : n ≤ 60) (hA : IL w a n f) (N : Nat) (B : Bool)
    (HY : Hid (okP l m f n = true → N = n ∧ B = true)) (HN : Hid (okP l m f n = false → N = 0 ∧ B = false)) :
    Calls Try.prog 21 #[lv l, .int .i64 m, .slice a n c] w fun e w' => AnsP2 w w' N (plcF l m f) (oupF l m f) B e := by
  have z0 := bx_new (b := w.heap.size) (w := w) (lvs l) 34 rfl
  have hB0 : Below w.heap.size w (w.alloc (lvo l)) := below_al (Below.refl _ _)
  have hG := fun w => implGoodL l w
  rw [hg] at hG
  have hmk := run_make_row' (P := Try.prog) 23 3 (.int .i64 0) 8 Try.underlying23 infoI rfl .i64 .i64 n (by omega) (by omega)
  have j1 : (n : Int) ≤ 60 := by omega
  go_enter Try.func21, Try.ntmps21
  go_wp2_with fail
  refine (hG _).mono ?_
  rintro e w1 ⟨rfl, hb⟩
  have b0 := z0.on hb
  have hB1 := stepA hB0 hb
  clear hb z0 hB0 hG
  go_upto_region 3 with fail
  go_cut [9, 10] from 34 to 39 (fun s9 s10 wx => ∃ b1 b2, s9 = .slice (some ⟨b1, 0, none⟩) n n ∧ s10 = .slice (some ⟨b2, 0, none⟩) n n ∧ b1 ≠ b2 ∧ w1.heap.size ≤ b1 ∧ w1.heap.size ≤ b2 ∧ IP wx b1 n (fun _ => 0) ∧ IP wx b2 n (fun _ => 0) ∧ Below w1.heap.size w1 wx)
  case first =>
    go_region
    all_goals
      go_wp2_with fail
      go_meet
      case rel =>
        have i1 := row_zero (World.rowIs_made w1 (.int .i64 0) n 3)
        have i2 := row_zero (World.rowIs_made (w1.alloc (.cells (madeCells #[.int .i64 0] n) 3)) (.int .i64 0) n 3)
        have i6 := i1.below ((Below.refl _ _).alloc (Nat.le_refl _) (.cells (madeCells #[.int .i64 0] n) 3)) i1.lt
        have i3 := i6.below (Below.refl _ _).drew i6.lt
        have i4 := i2.below (Below.refl _ _).drew i2.lt
        rw [size_al] at i4
        have i5 : Below w1.heap.size w1 ((w1.alloc (.cells (madeCells #[.int .i64 0] n) 3)).alloc (.cells (madeCells #[.int .i64 0] n) 3)).drew := (((Below.refl _ _).alloc (Nat.le_refl _) _).alloc (by simp) _).drew
        first
        | exact ⟨_, _, rfl, rfl, by omega, by omega, by omega, i3, i4, i5⟩
        | exact ⟨_, _, rfl, rfl, by omega, by omega, by omega, i4, i3, i5⟩
  case rest =>
    obtain ⟨b1, b2, rfl, rfl, hne, hb1, hb2, I1, I2, hbc⟩ := hcut
    have d0 := (b0.on hbc).alloc (hvo hd0)
    have dh := bx_new (b := wc.heap.size) (w := wc) (hvs hd0) 36 rfl
    have hBc : Below w.heap.size w (wc.alloc (hvo hd0)) := (stepA hB1 hbc).alloc (stepA hB1 hbc).size _
    have i1 := I1.below ((Below.refl wc.heap.size wc).alloc (Nat.le_refl _) (hvo hd0)) I1.lt
    have i2 := I2.below ((Below.refl wc.heap.size wc).alloc (Nat.le_refl _) (hvo hd0)) I2.lt
    have hl0 := b0.lt
    have k1 := I1.lt
    have k2 := I2.lt
    have HI : Hid (IP (wc.alloc (hvo hd0)) b1 n (fun _ => 0) ∧ IP (wc.alloc (hvo hd0)) b2 n (fun _ => 0)) := ⟨i1, i2⟩
    clear i1 i2 I1 I2 b0 hB1 hbc hmk
    go_wp2_with fail
    generalize wc.alloc (hvo hd0) = w2 at HI d0 dh hBc ⊢
    generalize wc.heap.size = K at dh k1 k2 ⊢
    go_loopw [12, 13, 43] (fun sp ss i wr => ∃ k : Nat, k ≤ n ∧ i = .int .i64 k ∧ okP l m f k = true ∧ sp = .int .i64 (pnN l m f k).p ∧ ss = .int .i64 (pnN l m f k).s ∧ Bx wr w.heap.size (lvs l) ∧ Bx wr K (hvs (pnN l m f k).h) ∧ Below w.heap.size w wr ∧ (∃ F G, IP wr b1 n F ∧ IP wr b2 n G ∧ ∀ j, j < k → F j = plcF l m f j ∧ G j = oupF l m f j)) (fun _ _ i _ => n - (intOf i).toNat)
    case atStart => exact ⟨0, Nat.zero_le _, rfl, rfl, rfl, rfl, d0, dh, hBc, fun _ => 0, fun _ => 0, HI.out.1, HI.out.2, fun j hj => absurd hj (Nat.not_lt_zero _)⟩
    case round =>
      obtain ⟨k, hk, rfl, hok, rfl, rfl, c0, c1, hB, F, G, hP, hQ, hF⟩ := hrel
      clear HI d0 dh hBc
      by_cases hlt : k < n
      · have j3 : (k : Int) < (n : Int) := by omega
        obtain ⟨ba, oa, rfl, hba, hca⟩ := hA (by omega)
        have q0 : wr.cell? ⟨ba, oa + k, none⟩ = some (.int .i64 (f k)) := (hB.cell (p := ⟨ba, _, none⟩) hba).trans (hca k hlt)
        have HS : Hid (pnN l m f (k + 1) = pnStep l m (pnN l m f k) (f k)) := rfl
        have HX : Hid (okP l m f (k + 1) = (okP l m f k && okS l (pnN l m f k).h (f k) (pnN l m f k).p)) := rfl
        have HO : Hid (okS l (pnN l m f k).h (f k) (pnN l m f k).p = false → okP l m f n = false) := fun e => okP_no hlt e
        have HOK : Hid (okP l m f k = true) := hok
        have HFF : Hid (∀ j, j < k → F j = plcF l m f j ∧ G j = oupF l m f j) := hF
        clear hok hF hca hA
        generalize pnN l m f k = x at c1 HS HX HO ⊢
        obtain ⟨xh, xp, xs⟩ := x
        simp only at c1 HO HX ⊢
        have hS := fun w => implStep l xh (f k) xp w
        have HS2 : Hid (pnN l m f (k + 1) = ⟨stepH l xh (f k) xp, cutI (wrap64 (xp + cutI (wrap64 (xs + dnI (stepH l xh (f k) xp).out m)) (-1000000) 1000000)) (-1000000) 1000000, cutI (wrap64 (xs + dnI (stepH l xh (f k) xp).out m)) (-1000000) 1000000⟩) := HS.out
        clear HS
        generalize stepH l xh (f k) xp = R at hS HS2
        generalize hQq : okS l xh (f k) xp = Q at hS HX HO
        clear hQq
        have hD := fun w => down_any R.out m w (by omega)
        generalize dnI R.out m = dd at hD HS2
        have hC1 := fun w => between_any (wrap64 (xs + dd)) (-1000000) 1000000 w (by omega)
        generalize cutI (wrap64 (xs + dd)) (-1000000) 1000000 = s2 at hC1 HS2
        have hC2 := fun w => between_any (wrap64 (xp + s2)) (-1000000) 1000000 w (by omega)
        generalize cutI (wrap64 (xp + s2)) (-1000000) 1000000 = p2 at hC2 HS2
        obtain ⟨x0, x1, x2, x3, x4, x5, x6⟩ := loop_at c0
        obtain ⟨y0, y1, y2, y3⟩ := hold_at c1
        go_wp2_with fail
        refine (hS _).mono ?_
        rintro e w3 ⟨rfl, hb⟩
        have e0 := (c0.on hb).alloc (hvo R)
        have e1 := (c1.on hb).alloc (hvo R)
        have eg := bx_new (b := w3.heap.size) (w := w3) (hvs R) 36 rfl
        have hP2 := (hP.below hb hP.lt).below ((Below.refl w3.heap.size w3).alloc (Nat.le_refl _) (hvo R)) (hP.below hb hP.lt).lt
        have hQ2 := (hQ.below hb hQ.lt).below ((Below.refl w3.heap.size w3).alloc (Nat.le_refl _) (hvo R)) (hQ.below hb hQ.lt).lt
        have hB2 : Below w.heap.size w (w3.alloc (hvo R)) := (stepA hB hb).alloc (stepA hB hb).size _
        have hs3 := hb.size
        have t1 := c1.lt
        have t2 := hP.lt
        have t3 := hQ.lt
        clear x0 x1 x2 x3 x4 x5 x6 y0 y1 y2 y3 c0 c1 hB hP hQ hb q0 hS
        cases Q
        · obtain ⟨rfl, rfl⟩ := HN.out (HO.out rfl)
          clear HY HN HO
          go_wp2
          exact ret_three rfl rfl ⟨⟨none, 0, none, 0, rfl, fun h0 => absurd h0 (Nat.lt_irrefl _)⟩, hB2⟩
        · clear HO HN
          go_upto_region 11 with fail
          generalize hw4 : w3.alloc (hvo R) = w4 at e0 e1 eg hP2 hQ2 hB2 ⊢
          clear hw4
          have g1 : K < w3.heap.size := by omega
          have g2 : b1 < w3.heap.size := by omega
          have g3 : b2 < w3.heap.size := by omega
          generalize w3.heap.size = gb at eg g1 g2 g3 ⊢
          obtain ⟨m0, m1, m2, m3⟩ := hold_at eg
          go_wp2_with fail
          refine (hD _).mono ?_
          rintro e w5 ⟨rfl, hw'⟩
          subst hw'
          go_wp2_with fail
          refine (hC1 _).mono ?_
          rintro e w6 ⟨rfl, hw'⟩
          subst hw'
          go_wp2_with fail
          refine (hC2 _).mono ?_
          rintro e w7 ⟨rfl, hw'⟩
          subst hw'
          clear hD hC1 hC2
          obtain ⟨y0, y1, y2, y3⟩ := hold_at e1
          have f0 := e1.fz 0
          have f1 := e1.fz 1
          have f2 := e1.fz 2
          have f3 := e1.fz 3
          have p0 := hP2.c k hlt
          have p1 := hP2.fz k
          have r0 := hQ2.c k hlt
          have r1 := hQ2.fz k
          go_wp2_with fail
          go_region
          all_goals
            go_wp2
            have hPa := ((ip_four hP2 (b' := K) (by omega) (.bool R.on) (.int .i64 R.sum) (.int .i64 R.last) (.int .i64 R.out)).set hlt p2).only ((Only.refl b2 _).set k (.int .i64 R.out)) hne
            have hQa := ((ip_four hQ2 (b' := K) (by omega) (.bool R.on) (.int .i64 R.sum) (.int .i64 R.last) (.int .i64 R.out)).only ((Only.refl b1 _).set k (.int .i64 p2)) (fun e => hne e.symm)).set hlt R.out
            have hcf : ∀ j, j < k + 1 → put F k p2 j = plcF l m f j ∧ put G k R.out j = oupF l m f j := by
              intro j hj
              unfold put
              by_cases e : j = k
              · subst e; rw [if_pos rfl, if_pos rfl]; unfold plcF oupF; rw [HS2.out]; exact ⟨rfl, rfl⟩
              · rw [if_neg e, if_neg e]; exact HFF.out j (by omega)
            refine ⟨⟨k + 1, by omega, by go_num, by rw [HX.out, HOK.out]; rfl, by rw [HS2.out], by rw [HS2.out], (((bx_four e0 (by omega) _ _ _ _).far _ (by omega)).far _ (by omega)).on (Below.refl _ _).drew, ?_, (((below_four hB2 (by omega) _ _ _ _).setCell (p := ⟨b1, k, none⟩) (by simp; omega) _).setCell (p := ⟨b2, k, none⟩) (by simp; omega) _).drew, _, _, hPa.below (Below.refl _ _).drew hPa.lt, hQa.below (Below.refl _ _).drew hQa.lt, hcf⟩, by simp [intOf]; omega⟩
            rw [HS2.out]
            exact (((e1.set4 R).far _ (by omega)).far _ (by omega)).on (Below.refl _ _).drew
      · have hke : k = n := by omega
        subst hke
        obtain ⟨hN1, rfl⟩ := HY.out hok
        have hN2 := hN1.symm
        subst hN2
        clear HY HN hA hN1
        have HFF : Hid (∀ j, j < k → F j = plcF l m f j ∧ G j = oupF l m f j) := hF
        clear hF hok
        go_wp2
        exact ret_three rfl rfl ⟨⟨_, _, _, _, rfl, fun _ => ⟨b1, b2, rfl, rfl, hne, by omega, by omega, hP.congr fun i hi => (HFF.out i hi).1, hQ.congr fun i hi => (HFF.out i hi).2⟩⟩, hB⟩
end Go.Proofs.Ythmjoeknkenfgaa
