/- RunHold, as the specification takes it. -/
import Derived.Test.YtnoaonflphameaaHdRunI
namespace Go.Proofs.Ytnoaonflphameaa
open Go.RowKit

set_option maxHeartbeats 4000000 in
set_option maxRecDepth 20000 in
theorem specRun_in (l : Lp) (h : Hd) (a b : Option Addr) (n c d : Nat) (f g : Nat → Int) (w : World) (hg : goodH l h = true) (hn : n ≤ 60) (hA : IL w a n f) (hA2 : IL w b n g) (N : Nat) (H : Hd) (B : Bool)
    (HY : Hid (okN l h f g n = true → N = n ∧ H = stN l h f g n ∧ B = true)) (HN : Hid (okN l h f g n = false → N = 0 ∧ H = hd0 ∧ B = false)) :
    Calls Try.prog 14 #[lv l, hv h, .slice a n c, .slice b n d] w fun e w' => AnsR w w' N (outF l h f g) H B e := by
  obtain ⟨z0, z1, z2, hB0⟩ := boxes_lha l h w
  have hG := fun w => specGoodH l h w
  rw [hg] at hG
  have j1 : (n : Int) ≤ 60 := by omega
  go_enter Try.func14, Try.ntmps14
  go_wp2_with fail
  refine (hG _).mono ?_
  rintro e w1 ⟨rfl, hb⟩
  have b0 := z0.on hb
  have b1 := z1.on hb
  have b2 := z2.on hb
  have hB1 := stepA hB0 hb
  clear hb z0 z1 z2 hB0 hG
  go_wp2_with fail
  go_loopw [11, 34] (fun v i wr => ∃ k : Nat, k ≤ n ∧ i = .int .i64 k ∧ okN l h f g k = true ∧ Bx wr w.heap.size (lvs l) ∧ Bx wr (w.heap.size + 1) (hvs (stN l h f g k)) ∧ Bx wr (w.heap.size + 1 + 1) (hvs hd0) ∧ Below w.heap.size w wr ∧ Own wr (w.heap.size + 1 + 1 + 1) v k (outF l h f g)) (fun _ i _ => n - (intOf i).toNat)
  case atStart => exact ⟨0, Nat.zero_le _, rfl, rfl, b0, b1, b2, hB1, ⟨rfl, .inl ⟨rfl, rfl⟩⟩⟩
  case round =>
    obtain ⟨k, hk, rfl, hok, c0, c1, c2, hB, hown⟩ := hrel
    clear b0 b1 b2 hB1
    by_cases hlt : k < n
    · have j3 : (k : Int) < (n : Int) := by omega
      obtain ⟨ba, oa, rfl, hba, hca⟩ := hA (by omega)
      obtain ⟨bb, ob, rfl, hbb, hcb⟩ := hA2 (by omega)
      have q0 : wr.cell? ⟨ba, oa + k, none⟩ = some (.int .i64 (f k)) := (hB.cell (p := ⟨ba, _, none⟩) hba).trans (hca k hlt)
      have q1 : wr.cell? ⟨bb, ob + k, none⟩ = some (.int .i64 (g k)) := (hB.cell (p := ⟨bb, _, none⟩) hbb).trans (hcb k hlt)
      have hS := fun w => specStep l (stN l h f g k) (f k) (g k) w
      have hsz := c2.lt
      have HOK : Hid (okN l h f g k = true) := hok
      clear hok hca hcb hA hA2
      obtain ⟨x0, x1, x2, x3, x4, x5, x6⟩ := loop_at c0
      obtain ⟨y0, y1, y2, y3⟩ := hold_at c1
      generalize hR : stepH l (stN l h f g k) (f k) (g k) = R at hS
      generalize hQ : okS l (stN l h f g k) (f k) (g k) = Q at hS
      have HR : Hid (stepH l (stN l h f g k) (f k) (g k) = R) := hR
      have HQ : Hid (okS l (stN l h f g k) (f k) (g k) = Q) := hQ
      clear hR hQ
      generalize hst : stN l h f g k = st at c1 hS y0 y1 y2 y3
      have HST : Hid (stN l h f g k = st) := hst
      clear hst
      go_upto_region 7 with fail
      have hw0 := Below.refl wr.heap.size wr
      go_cut [13, 14] from 37 to 50 (fun s13 s14 wx => ∃ gb, s13 = .pointer (some ⟨gb, 0, none⟩) ∧ wr.heap.size ≤ gb ∧ Bx wx gb (hvs R) ∧ Below wr.heap.size wr wx ∧ s14 = .bool Q)
      case first =>
        go_region_held3 (fun w' => w'.cell? ⟨w.heap.size, 0, none⟩ = some (.int .i64 l.P) ∧ w'.cell? ⟨w.heap.size, 1, none⟩ = some (.int .i64 l.I) ∧ w'.cell? ⟨w.heap.size, 2, none⟩ = some (.int .i64 l.D) ∧ w'.cell? ⟨w.heap.size, 3, none⟩ = some (.int .i64 l.S) ∧ w'.cell? ⟨w.heap.size, 4, none⟩ = some (.int .i64 l.M) ∧ w'.cell? ⟨w.heap.size, 5, none⟩ = some (.int .i64 l.W) ∧ w'.cell? ⟨w.heap.size, 6, none⟩ = some (.int .i64 l.L) ∧ w'.cell? ⟨w.heap.size + 1, 0, none⟩ = some (.bool st.on) ∧ w'.cell? ⟨w.heap.size + 1, 1, none⟩ = some (.int .i64 st.sum) ∧ w'.cell? ⟨w.heap.size + 1, 2, none⟩ = some (.int .i64 st.last) ∧ w'.cell? ⟨w.heap.size + 1, 3, none⟩ = some (.int .i64 st.out) ∧ w'.cell? ⟨ba, oa + k, none⟩ = some (.int .i64 (f k)) ∧ w'.cell? ⟨bb, ob + k, none⟩ = some (.int .i64 (g k)))
          (first | (exact keepRun c0 c1 q0 q1 hw0.drew) | (exact keepRun c0 c1 q0 q1 hw1) | (exact keepRun c0 c1 q0 q1 (hw0.alloc (Nat.le_refl _) _).drew) | (exact keepRun c0 c1 q0 q1 (hw1.alloc hw1.size _)) | (exact keepRun c0 c1 q0 q1 (below_four hw1 (Nat.le_refl _) _ _ _ _)) | (fail))
          (first | (go_at_call 44; refine (hS _).mono ?_; rintro e w3 ⟨rfl, hbn⟩; (first | (have hw1 := stepA hw0.drew hbn) | (have tk := below_al ((Below.refl _ _).drew.trans hbn); have hw1 := stepA hw0 tk; have nb := (bx_new (b := wr.heap.size) (w := wr) (hvs hd0) 36 rfl).on ((Below.refl _ _).drew.trans hbn))); clear hbn; (try (obtain ⟨m0, m1, m2, m3⟩ := hold_at nb; have f0 := nb.fz 0; have f1 := nb.fz 1; have f2 := nb.fz 2; have f3 := nb.fz 3))) | (fail))
        all_goals
          go_wp2_with fail
          go_meet
          case rel =>
            first
            | exact ⟨_, rfl, hw1.size, bx_new _ _ rfl, hw1.alloc hw1.size _, rfl⟩
            | exact ⟨_, rfl, Nat.le_refl _, nb.set4 _, below_four hw1 (Nat.le_refl _) _ _ _ _, rfl⟩
      case rest =>
        obtain ⟨gb, rfl, hgb, G, hbn, rfl⟩ := hcut
        have e0 := c0.on hbn
        have e1 := c1.on hbn
        have e2 := c2.on hbn
        have hown2 := hown.below hbn
        have hB2 := stepA hB hbn
        clear x0 x1 x2 x3 x4 x5 x6 y0 y1 y2 y3 c0 c1 c2 hB hown hbn q0 q1 hw0 hS
        cases Q
        · obtain ⟨rfl, rfl, rfl⟩ := HN.out (okN_no hlt HQ.out)
          obtain ⟨y0, y1, y2, y3⟩ := hold_at e2
          have f0 := e2.fz 0
          have f1 := e2.fz 1
          have f2 := e2.fz 2
          have f3 := e2.fz 3
          go_wp2
          exact ret_run rfl rfl (e2.set4 hd0) rfl ⟨none, 0, rfl, lq_none _ _ _ _ _, below_four hB2 (by omega) _ _ _ _⟩
        · obtain ⟨m0, m1, m2, m3⟩ := hold_at G
          obtain ⟨y0, y1, y2, y3⟩ := hold_at e1
          have f0 := e1.fz 0
          have f1 := e1.fz 1
          have f2 := e1.fz 2
          have f3 := e1.fz 3
          obtain ⟨i0, hi, hzz⟩ := Option.map_eq_some_iff.1 infoI
          simp only [Prod.mk.injEq] at hzz
          obtain ⟨hz0, hz1, hz2⟩ := hzz
          go_upto_region 11 with fail
          have d0 := bx_four e0 (b' := w.heap.size + 1) (by omega) (.bool R.on) (.int .i64 R.sum) (.int .i64 R.last) (.int .i64 R.out)
          have d1 := e1.set4 R
          have d2 := bx_four e2 (b' := w.heap.size + 1) (by omega) (.bool R.on) (.int .i64 R.sum) (.int .i64 R.last) (.int .i64 R.out)
          have hown3 := hown2.only (((((Only.refl (w.heap.size + 1) wc).set 0 (.bool R.on)).set 1 (.int .i64 R.sum)).set 2 (.int .i64 R.last)).set 3 (.int .i64 R.out)) (by omega)
          have hB3 := below_four hB2 (b := w.heap.size + 1) (by omega) (.bool R.on) (.int .i64 R.sum) (.int .i64 R.last) (.int .i64 R.out)
          have hs4 : w.heap.size + 1 + 1 < wc.heap.size := e2.lt
          clear e0 e1 e2 hown2 hB2 G m0 m1 m2 m3 y0 y1 y2 y3 f0 f1 f2 f3
          have hs5 : w.heap.size + 1 + 1 < ((((wc.setCell ⟨w.heap.size + 1, 0, none⟩ (.bool R.on)).setCell ⟨w.heap.size + 1, 1, none⟩ (.int .i64 R.sum)).setCell ⟨w.heap.size + 1, 2, none⟩ (.int .i64 R.last)).setCell ⟨w.heap.size + 1, 3, none⟩ (.int .i64 R.out)).heap.size := d2.lt
          generalize (((wc.setCell ⟨w.heap.size + 1, 0, none⟩ (.bool R.on)).setCell ⟨w.heap.size + 1, 1, none⟩ (.int .i64 R.sum)).setCell ⟨w.heap.size + 1, 2, none⟩ (.int .i64 R.last)).setCell ⟨w.heap.size + 1, 3, none⟩ (.int .i64 R.out) = w4 at d0 d1 d2 hown3 hB3 hs5 ⊢
          have p3 := d1.at 3 rfl
          go_wp2_with (at_builtin; refine wpList_append_own _ rfl _ _ 23 rfl (w.heap.size + 1 + 1 + 1) 3 i0 (.int .i64 0) 1 8 Try.underlying23 hi hz0 hz1 hz2 rfl (by decide) _ _ _ rfl (World.ownsRow.alloc hown3 _) ⟨w4.heap.size, 0, none⟩ 1 1 [.int .i64 R.out] rfl rfl (cell_one_new _ _ _) (fun x hx => by simp at hx; subst hx; rfl) (by unfold maxLen; omega) (by omega) (by simp; omega) ?_; intro v' w5 hown5 hgrow5 _)
          have hBx : Below (w.heap.size + 1 + 1 + 1) w4 w5 := ((Below.refl (w.heap.size + 1 + 1 + 1) w4).alloc (by omega) (.cells #[.int .i64 R.out] 3)).grown hgrow5 (by simp; omega) (fun q hq => (World.ownsRow.lt hown3 q hq).1)
          have e3 := HR.out
          refine ⟨⟨k + 1, by omega, by go_num, by unfold okN; rw [HOK.out, HQ.out]; rfl, d0.below hBx (by omega), ?_, d2.below hBx (by omega), hB3.trans (hBx.mono (by omega)), ?_⟩, by simp [intOf]; omega⟩
          · unfold stN; rw [e3]; exact d1.below hBx (by omega)
          · have e4 : outF l h f g k = R.out := by unfold outF stN; rw [e3]
            unfold Own; rw [vL_succ, e4]; exact hown5
    · have hke : k = n := by omega
      subst hke
      obtain ⟨hN1, hH1, rfl⟩ := HY.out hok
      have hN2 := hN1.symm
      subst hN2
      rw [← hH1] at c1
      clear HY HN hok hA hA2 hN1 hH1
      obtain ⟨av, cv, rfl⟩ := hown.shape
      obtain ⟨y0, y1, y2, y3⟩ := hold_at c1
      obtain ⟨r0, r1, r2, r3⟩ := hold_at c2
      have f0 := c2.fz 0
      have f1 := c2.fz 1
      have f2 := c2.fz 2
      have f3 := c2.fz 3
      go_wp2_with fail
      go_region
      all_goals
        go_wp2
        refine ret_run rfl rfl ((c2.set4 H).on (Below.refl _ _).drew) rfl ⟨av, cv, rfl, ?_, (below_four hB (by omega) _ _ _ _).drew⟩
        have ho := (hown.only (((((Only.refl (w.heap.size + 1 + 1) wr).set 0 (.bool H.on)).set 1 (.int .i64 H.sum)).set 2 (.int .i64 H.last)).set 3 (.int .i64 H.out)) (by omega)).below (Below.refl _ _).drew
        exact ho.lq.wide (by omega) (Nat.le_refl _)

set_option maxHeartbeats 1000000 in
set_option maxRecDepth 20000 in
theorem implRun_no0 (l : Lp) (h : Hd) (a b : Option Addr) (n c m d : Nat) (w : World) (hg : goodH l h = false) :
    Calls Try.prog 13 #[lv l, hv h, .slice a n c, .slice b m d] w fun e w' => e = .returned (.tuple #[.slice none 0 0, hv hd0, .bool false]) ∧ Below w.heap.size w w' := by
  obtain ⟨z0, z1, z2, hB0⟩ := boxes_lha l h w
  have hG := fun w => implGoodH l h w
  rw [hg] at hG
  go_enter Try.func13, Try.ntmps13
  go_wp2_with fail
  refine (hG _).mono ?_
  rintro e w1 ⟨rfl, hb⟩
  have m2 := z2.on hb
  have hB1 := stepA hB0 hb
  clear hb z0 z1 z2 hB0 hG
  obtain ⟨r0, r1, r2, r3⟩ := hold_at m2
  have s0 := m2.fz 0
  have s1 := m2.fz 1
  have s2 := m2.fz 2
  have s3 := m2.fz 3
  go_wp2
  exact ret_run rfl rfl (m2.set4 hd0) rfl ⟨rfl, below_four hB1 (by omega) _ _ _ _⟩
set_option maxHeartbeats 1000000 in
set_option maxRecDepth 20000 in
theorem implRun_no1 (l : Lp) (h : Hd) (a b : Option Addr) (n c m d : Nat) (w : World) (hg : goodH l h = true) (hn : ¬ n ≤ 60) :
    Calls Try.prog 13 #[lv l, hv h, .slice a n c, .slice b m d] w fun e w' => e = .returned (.tuple #[.slice none 0 0, hv hd0, .bool false]) ∧ Below w.heap.size w w' := by
  obtain ⟨z0, z1, z2, hB0⟩ := boxes_lha l h w
  have hG := fun w => implGoodH l h w
  rw [hg] at hG
  have j1 : ¬ (n : Int) ≤ 60 := by omega
  go_enter Try.func13, Try.ntmps13
  go_wp2_with fail
  refine (hG _).mono ?_
  rintro e w1 ⟨rfl, hb⟩
  have m2 := z2.on hb
  have hB1 := stepA hB0 hb
  clear hb z0 z1 z2 hB0 hG
  obtain ⟨r0, r1, r2, r3⟩ := hold_at m2
  have s0 := m2.fz 0
  have s1 := m2.fz 1
  have s2 := m2.fz 2
  have s3 := m2.fz 3
  go_wp2
  exact ret_run rfl rfl (m2.set4 hd0) rfl ⟨rfl, below_four hB1 (by omega) _ _ _ _⟩
set_option maxHeartbeats 1000000 in
set_option maxRecDepth 20000 in
theorem implRun_no2 (l : Lp) (h : Hd) (a b : Option Addr) (n c m d : Nat) (w : World) (hg : goodH l h = true) (hn : n ≤ 60) (hm : ¬ m = n) :
    Calls Try.prog 13 #[lv l, hv h, .slice a n c, .slice b m d] w fun e w' => e = .returned (.tuple #[.slice none 0 0, hv hd0, .bool false]) ∧ Below w.heap.size w w' := by
  obtain ⟨z0, z1, z2, hB0⟩ := boxes_lha l h w
  have hG := fun w => implGoodH l h w
  rw [hg] at hG
  have j1 : (n : Int) ≤ 60 := by omega
  have j2 : ((m : Int) != (n : Int)) = true := by simpa using (by omega : ¬ (m : Int) = (n : Int))
  go_enter Try.func13, Try.ntmps13
  go_wp2_with fail
  refine (hG _).mono ?_
  rintro e w1 ⟨rfl, hb⟩
  have m2 := z2.on hb
  have hB1 := stepA hB0 hb
  clear hb z0 z1 z2 hB0 hG
  obtain ⟨r0, r1, r2, r3⟩ := hold_at m2
  have s0 := m2.fz 0
  have s1 := m2.fz 1
  have s2 := m2.fz 2
  have s3 := m2.fz 3
  go_wp2
  exact ret_run rfl rfl (m2.set4 hd0) rfl ⟨rfl, below_four hB1 (by omega) _ _ _ _⟩
theorem implRun (l : Lp) (h : Hd) (a b : Option Addr) (n c m d : Nat) (f g : Nat → Int) (w : World) (hA : IL w a n f) (hA2 : IL w b m g) :
    Calls Try.prog 13 #[lv l, hv h, .slice a n c, .slice b m d] w fun e w' => AnsR w w' (runN l h n m f g) (outF l h f g) (runH l h n m f g) (runB l h n m f g) e := by
  have no : runB l h n m f g = false → (∀ {e : Ending} {w' : World}, (e = .returned (.tuple #[.slice none 0 0, hv hd0, .bool false]) ∧ Below w.heap.size w w') → AnsR w w' (runN l h n m f g) (outF l h f g) (runH l h n m f g) (runB l h n m f g) e) := by
    intro e1 e w' hh
    unfold runN runH
    rw [e1, if_neg (by decide), if_neg (by decide)]
    exact ⟨none, 0, hh.1, lq_none _ _ _ _ _, hh.2⟩
  cases hg : goodH l h
  · exact (implRun_no0 l h a b n c m d w hg).mono fun e w' hh => no (runB_bad (by rw [hg]; rfl)) hh
  by_cases hn : n ≤ 60
  rotate_left
  · exact (implRun_no1 l h a b n c m d w hg hn).mono fun e w' hh => no (runB_bad (by rw [hg, decide_eq_false hn]; rfl)) hh
  by_cases hm : m = n
  rotate_left
  · exact (implRun_no2 l h a b n c m d w hg hn hm).mono fun e w' hh => no (runB_bad (by rw [hg, decide_eq_true hn, decide_eq_false hm]; rfl)) hh
  subst hm
  have e0 : runB l h m m f g = okN l h f g m := by unfold runB; rw [hg, decide_eq_true hn, decide_eq_true rfl]; rfl
  refine implRun_in l h a b m c d f g w hg hn hA hA2 _ _ _ (fun e => ?_) (fun e => ?_)
  · unfold runN runH; rw [e0, e, if_pos rfl, if_pos rfl]; exact ⟨rfl, rfl, rfl⟩
  · unfold runN runH; rw [e0, e, if_neg (by decide), if_neg (by decide)]; exact ⟨rfl, rfl, rfl⟩

set_option maxHeartbeats 1000000 in
set_option maxRecDepth 20000 in
theorem specRun_no0 (l : Lp) (h : Hd) (a b : Option Addr) (n c m d : Nat) (w : World) (hg : goodH l h = false) :
    Calls Try.prog 14 #[lv l, hv h, .slice a n c, .slice b m d] w fun e w' => e = .returned (.tuple #[.slice none 0 0, hv hd0, .bool false]) ∧ Below w.heap.size w w' := by
  obtain ⟨z0, z1, z2, hB0⟩ := boxes_lha l h w
  have hG := fun w => specGoodH l h w
  rw [hg] at hG
  go_enter Try.func14, Try.ntmps14
  go_wp2_with fail
  refine (hG _).mono ?_
  rintro e w1 ⟨rfl, hb⟩
  have m2 := z2.on hb
  have hB1 := stepA hB0 hb
  clear hb z0 z1 z2 hB0 hG
  obtain ⟨r0, r1, r2, r3⟩ := hold_at m2
  have s0 := m2.fz 0
  have s1 := m2.fz 1
  have s2 := m2.fz 2
  have s3 := m2.fz 3
  go_wp2
  exact ret_run rfl rfl (m2.set4 hd0) rfl ⟨rfl, below_four hB1 (by omega) _ _ _ _⟩
set_option maxHeartbeats 1000000 in
set_option maxRecDepth 20000 in
theorem specRun_no1 (l : Lp) (h : Hd) (a b : Option Addr) (n c m d : Nat) (w : World) (hg : goodH l h = true) (hn : ¬ n ≤ 60) :
    Calls Try.prog 14 #[lv l, hv h, .slice a n c, .slice b m d] w fun e w' => e = .returned (.tuple #[.slice none 0 0, hv hd0, .bool false]) ∧ Below w.heap.size w w' := by
  obtain ⟨z0, z1, z2, hB0⟩ := boxes_lha l h w
  have hG := fun w => specGoodH l h w
  rw [hg] at hG
  have j1 : ¬ (n : Int) ≤ 60 := by omega
  go_enter Try.func14, Try.ntmps14
  go_wp2_with fail
  refine (hG _).mono ?_
  rintro e w1 ⟨rfl, hb⟩
  have m2 := z2.on hb
  have hB1 := stepA hB0 hb
  clear hb z0 z1 z2 hB0 hG
  obtain ⟨r0, r1, r2, r3⟩ := hold_at m2
  have s0 := m2.fz 0
  have s1 := m2.fz 1
  have s2 := m2.fz 2
  have s3 := m2.fz 3
  go_wp2
  exact ret_run rfl rfl (m2.set4 hd0) rfl ⟨rfl, below_four hB1 (by omega) _ _ _ _⟩
set_option maxHeartbeats 1000000 in
set_option maxRecDepth 20000 in
theorem specRun_no2 (l : Lp) (h : Hd) (a b : Option Addr) (n c m d : Nat) (w : World) (hg : goodH l h = true) (hn : n ≤ 60) (hm : ¬ m = n) :
    Calls Try.prog 14 #[lv l, hv h, .slice a n c, .slice b m d] w fun e w' => e = .returned (.tuple #[.slice none 0 0, hv hd0, .bool false]) ∧ Below w.heap.size w w' := by
  obtain ⟨z0, z1, z2, hB0⟩ := boxes_lha l h w
  have hG := fun w => specGoodH l h w
  rw [hg] at hG
  have j1 : (n : Int) ≤ 60 := by omega
  have j2 : ((m : Int) != (n : Int)) = true := by simpa using (by omega : ¬ (m : Int) = (n : Int))
  go_enter Try.func14, Try.ntmps14
  go_wp2_with fail
  refine (hG _).mono ?_
  rintro e w1 ⟨rfl, hb⟩
  have m2 := z2.on hb
  have hB1 := stepA hB0 hb
  clear hb z0 z1 z2 hB0 hG
  obtain ⟨r0, r1, r2, r3⟩ := hold_at m2
  have s0 := m2.fz 0
  have s1 := m2.fz 1
  have s2 := m2.fz 2
  have s3 := m2.fz 3
  go_wp2
  exact ret_run rfl rfl (m2.set4 hd0) rfl ⟨rfl, below_four hB1 (by omega) _ _ _ _⟩
theorem specRun (l : Lp) (h : Hd) (a b : Option Addr) (n c m d : Nat) (f g : Nat → Int) (w : World) (hA : IL w a n f) (hA2 : IL w b m g) :
    Calls Try.prog 14 #[lv l, hv h, .slice a n c, .slice b m d] w fun e w' => AnsR w w' (runN l h n m f g) (outF l h f g) (runH l h n m f g) (runB l h n m f g) e := by
  have no : runB l h n m f g = false → (∀ {e : Ending} {w' : World}, (e = .returned (.tuple #[.slice none 0 0, hv hd0, .bool false]) ∧ Below w.heap.size w w') → AnsR w w' (runN l h n m f g) (outF l h f g) (runH l h n m f g) (runB l h n m f g) e) := by
    intro e1 e w' hh
    unfold runN runH
    rw [e1, if_neg (by decide), if_neg (by decide)]
    exact ⟨none, 0, hh.1, lq_none _ _ _ _ _, hh.2⟩
  cases hg : goodH l h
  · exact (specRun_no0 l h a b n c m d w hg).mono fun e w' hh => no (runB_bad (by rw [hg]; rfl)) hh
  by_cases hn : n ≤ 60
  rotate_left
  · exact (specRun_no1 l h a b n c m d w hg hn).mono fun e w' hh => no (runB_bad (by rw [hg, decide_eq_false hn]; rfl)) hh
  by_cases hm : m = n
  rotate_left
  · exact (specRun_no2 l h a b n c m d w hg hn hm).mono fun e w' hh => no (runB_bad (by rw [hg, decide_eq_true hn, decide_eq_false hm]; rfl)) hh
  subst hm
  have e0 : runB l h m m f g = okN l h f g m := by unfold runB; rw [hg, decide_eq_true hn, decide_eq_true rfl]; rfl
  refine specRun_in l h a b m c d f g w hg hn hA hA2 _ _ _ (fun e => ?_) (fun e => ?_)
  · unfold runN runH; rw [e0, e, if_pos rfl, if_pos rfl]; exact ⟨rfl, rfl, rfl⟩
  · unfold runN runH; rw [e0, e, if_neg (by decide), if_neg (by decide)]; exact ⟨rfl, rfl, rfl⟩
end Go.Proofs.Ytnoaonflphameaa
