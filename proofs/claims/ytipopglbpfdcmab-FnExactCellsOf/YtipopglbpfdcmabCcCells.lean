/- The cells of counts, as both tell them. -/
import Derived.Test.YtipopglbpfdcmabCcGoodI
import Derived.Test.YtipopglbpfdcmabClBase
import Derived.Test.YtipopglbpfdcmabClFree
namespace Go.Proofs.Ytipopglbpfdcmab
open Go.RowKit

/-- what a cell is that was hit and missed so often -/
def kd (h m : Int) : Int := if m < h then 1 else if h < m then 0 else 2
def cofW (W : Int) (q : Bool) : Int := if q then W else 0
def cofN (n : Nat) (q : Bool) : Nat := if q then n else 0
def AnsC (w w' : World) (e : Ending) (W : Int) (n : Nat) (F : Nat → Int) : Prop := ∃ a c, e = .returned (cel W a n c) ∧ LQ w' w.heap.size w'.heap.size a n F
theorem ansC_nil (w w' : World) (F : Nat → Int) : AnsC w w' (.returned (cel 0 none 0 0)) 0 0 F := ⟨none, 0, rfl, lq_none _ _ _ _ _⟩

set_option maxHeartbeats 400000 in
theorem isNaN_any (x : Int) (w : World) :
    Calls Try.prog 51 #[.int .i64 x] w fun e w' => e = .returned (.bool false) ∧ w' = w := by
  go_enter Try.func51, Try.ntmps51
  go_wp2
  go_ret
  exact ⟨rfl, rfl⟩
def cmpI (x y : Int) : Int := if x < y then -1 else if y < x then 1 else 0
set_option maxHeartbeats 400000 in
theorem cmp_any (x y : Int) (w : World) :
    Calls Try.prog 49 #[.int .i64 x, .int .i64 y] w fun e w' => e = .returned (.int .i64 (cmpI x y)) ∧ w' = w := by
  by_cases h0 : x < y
  · go_enter Try.func49, Try.ntmps49
    go_wp2_with (go_at_call 51; refine (isNaN_any _ _).mono ?_; rintro e w' ⟨rfl, hw'⟩; have hs := hw'.symm; clear hw'; subst hs)
    go_ret
    exact ⟨ret_int (by simp [cmpI, h0]), rfl⟩
  · by_cases h1 : y < x
    · go_enter Try.func49, Try.ntmps49
      go_wp2_with (go_at_call 51; refine (isNaN_any _ _).mono ?_; rintro e w' ⟨rfl, hw'⟩; have hs := hw'.symm; clear hw'; subst hs)
      go_ret
      exact ⟨ret_int (by unfold cmpI; rw [if_neg (by omega), if_pos (by omega)]), rfl⟩
    · go_enter Try.func49, Try.ntmps49
      go_wp2_with (go_at_call 51; refine (isNaN_any _ _).mono ?_; rintro e w' ⟨rfl, hw'⟩; have hs := hw'.symm; clear hw'; subst hs)
      go_ret
      exact ⟨ret_int (by unfold cmpI; rw [if_neg (by omega), if_neg (by omega)]), rfl⟩
set_option maxHeartbeats 400000 in
theorem kindBy_any (x y : Int) (w : World) :
    Calls Try.prog 39 #[.int .i64 x, .int .i64 y] w fun e w' => e = .returned (.int .i64 (kd x y)) ∧ w' = w := by
  have hc := cmp_any x y
  by_cases h0 : x < y
  · have e1 : cmpI x y = -1 := by simp [cmpI, h0]
    have e2 : kd x y = 0 := by unfold kd; rw [if_neg (by omega), if_pos h0]
    rw [e1] at hc
    rw [e2]
    go_enter Try.func39, Try.ntmps39
    go_wp2_with (go_at_call 49; refine (hc _).mono ?_; rintro e w' ⟨rfl, hw'⟩; have hs := hw'.symm; clear hw'; subst hs)
    go_ret
    exact ⟨rfl, rfl⟩
  · by_cases h1 : y < x
    · have e1 : cmpI x y = 1 := by unfold cmpI; rw [if_neg h0, if_pos h1]
      have e2 : kd x y = 1 := by unfold kd; rw [if_pos h1]
      rw [e1] at hc
      rw [e2]
      go_enter Try.func39, Try.ntmps39
      go_wp2_with (go_at_call 49; refine (hc _).mono ?_; rintro e w' ⟨rfl, hw'⟩; have hs := hw'.symm; clear hw'; subst hs)
      go_ret
      exact ⟨rfl, rfl⟩
    · have e1 : cmpI x y = 0 := by unfold cmpI; rw [if_neg h0, if_neg h1]
      have e2 : kd x y = 2 := by unfold kd; rw [if_neg h1, if_neg h0]
      rw [e1] at hc
      rw [e2]
      go_enter Try.func39, Try.ntmps39
      go_wp2_with (go_at_call 49; refine (hc _).mono ?_; rintro e w' ⟨rfl, hw'⟩; have hs := hw'.symm; clear hw'; subst hs)
      go_ret
      exact ⟨rfl, rfl⟩

set_option maxHeartbeats 2000000 in
theorem implCof (W : Int) (a b : Option Addr) (n c m d : Nat) (f g : Nat → Int) (w : World) (hn : n ≤ 1048576) (hm : m ≤ 1048576) (hf : IL w a n f) (hg : IL w b m g) :
    Calls Try.prog 15 #[cnt W a n c b m d] w fun e w' => AnsC w w' e (cofW W (cntB W n f m g)) (cofN n (cntB W n f m g)) (fun i => kd (f i) (g i)) ∧ Below w.heap.size w w' := by
  have hgd := implGoodC W a b n c m d f g ((w.alloc (cntO W a n c b m d 26)).alloc (celO 0 none 0 0 34)) hn hm ((hf.alloc _).alloc _) ((hg.alloc _).alloc _)
  have bA0 := (bx_new (w := w) (cntL W a n c b m d) 26 rfl).alloc (celO 0 none 0 0 34)
  have bR0 := bx_new (w := w.alloc (cntO W a n c b m d 26)) (b := w.heap.size + 1) (celL 0 none 0 0) 34 (by simp)
  cases hs : cntB W n f m g with
  | false =>
    rw [hs] at hgd
    go_enter Try.func15, Try.ntmps15
    go_wp2_with fail
    refine hgd.mono ?_
    rintro e w1 ⟨rfl, hb1⟩
    have bR := bR0.on hb1
    have hB1 := below_al (below_al hb1)
    have r0 := bR.c0
    have r1 := bR.c1
    have f0 := bR.fz 0
    have f1 := bR.fz 1
    have bE := (bR.set 0 (by simp) (.int .i64 0)).set 1 (by simp) (.slice none 0 0)
    have hBE := (hB1.setCell (p := ⟨w.heap.size + 1, 0, none⟩) (by simp) (.int .i64 0)).setCell (p := ⟨w.heap.size + 1, 1, none⟩) (by simp) (.slice none 0 0)
    clear hgd bA0 bR0 hb1 hB1 bR
    go_wp2
    refine ret_cel Try.results15 rfl bE.c0 bE.c1 rfl ?_
    exact ⟨ansC_nil _ _ _, hBE⟩
  | true =>
    rw [hs] at hgd
    obtain ⟨hsz, rfl, -, -⟩ := cntB_parts hs
    have hN := sized_le hsz
    have hmk := run_make_row' (P := Try.prog) 22 3 (.int .i64 0) 8 Try.underlying22 infoI rfl .i64 .i64 m (by omega) (by omega)
    go_enter Try.func15, Try.ntmps15
    go_wp2_with fail
    refine hgd.mono ?_
    rintro e w1 ⟨rfl, hb1⟩
    have bR := bR0.on hb1
    have bA := bA0.on hb1
    have hB1 := below_al (below_al hb1)
    have lA := bA.lt
    have y0 := bA.c0
    have y1 := bA.c1
    have y2 := bA.c2
    clear hgd bA0 bR0 hb1
    go_wp2
    have hP0 := row_ip (F := fun _ => 0) (World.rowIs_made w1 (.int .i64 0) m 3)
    have hb0 : Below w1.heap.size w1 (w1.alloc (.cells (madeCells #[.int .i64 0] m) 3)) := (Below.refl _ _).alloc (Nat.le_refl _) _
    have HP : Hid (IP (w1.alloc (.cells (madeCells #[.int .i64 0] m) 3)) w1.heap.size m (fun _ => 0)) := hP0
    clear hP0 hmk y0 y1 y2
    go_loopw [17] (fun i wr => ∃ (k : Nat) (G : Nat → Int), k ≤ m ∧ i = .int .i64 k ∧ IP wr w1.heap.size m G ∧ (∀ j, j < k → G j = kd (f j) (g j)) ∧ Below w1.heap.size w1 wr) (fun i _ => m - (intOf i).toNat)
    case atStart => exact ⟨0, _, Nat.zero_le _, rfl, HP.out, fun j hj => absurd hj (Nat.not_lt_zero _), hb0⟩
    case round =>
      obtain ⟨k, G, hk, rfl, hP, hd, hB⟩ := hrel
      clear HP hb0
      have hBw := hB1.trans (hB.mono hB1.size)
      by_cases hlt : k < m
      · obtain ⟨p, off, rfl, hb, hc⟩ := hf (by omega)
        obtain ⟨p2, off2, rfl, hb2, hc2⟩ := hg (by omega)
        have x0 := (hBw.cell (p := ⟨p, off + k, none⟩) hb).trans (hc k hlt)
        have y0 := (hBw.cell (p := ⟨p2, off2 + k, none⟩) hb2).trans (hc2 k hlt)
        have bw := bA.on hB
        have z2 := bw.c2
        have j0 : (0 : Int) ≤ (k : Int) := by omega
        have j1 : (k : Int) < (m : Int) := by omega
        have u0 := hP.c k hlt
        have u1 := hP.fz k
        clear hc hc2 hf hg bA bR bw
        go_wp2_with (go_at_call 39; refine (kindBy_any (f k) (g k) _).mono ?_; rintro e w' ⟨rfl, hw'⟩; have hs := hw'.symm; clear hw'; subst hs)
        refine ⟨⟨k + 1, _, by omega, by go_num, hP.set hlt _, fun j hj => ?_, hB.setCell (p := ⟨w1.heap.size, k, none⟩) (Nat.le_refl _) _⟩, by simp [intOf]; omega⟩
        unfold put
        by_cases e : j = k
        · subst e; rw [if_pos rfl]
        · rw [if_neg e]; exact hd j (by omega)
      · have hke : k = m := by omega
        subst hke
        have bw := bA.on hB
        have br := bR.on hB
        have z0 := bw.c0
        have r0 := br.c0
        have r1 := br.c1
        have f0 := br.fz 0
        have f1 := br.fz 1
        have lR := bR.lt
        have bE := (br.set 0 (by simp) (.int .i64 W)).set 1 (by simp) (.slice (some ⟨w1.heap.size, 0, none⟩) k k)
        have hBE := (hBw.setCell (p := ⟨w.heap.size + 1, 0, none⟩) (by simp) (.int .i64 W)).setCell (p := ⟨w.heap.size + 1, 1, none⟩) (by simp) (.slice (some ⟨w1.heap.size, 0, none⟩) k k)
        have hL := lq_set (lq_set (lq_of (lo := w1.heap.size) (hi := w1.heap.size + 1) (hP.congr hd) (Nat.le_refl _) (Nat.lt_succ_self _)) (b := w.heap.size + 1) (k := 0) (.int .i64 W) (by omega)) (b := w.heap.size + 1) (k := 1) (.slice (some ⟨w1.heap.size, 0, none⟩) k k) (by omega)
        have hlt2 := hP.lt
        have hs1 := hB1.size
        clear hf hg bA bR bw br hd
        go_wp2_with fail
        refine ret_cel Try.results15 rfl bE.c0 bE.c1 rfl ?_
        exact ⟨⟨_, _, rfl, hL.wide hs1 (by simp only [size_set]; omega)⟩, hBE⟩

set_option maxHeartbeats 2000000 in
theorem specCof (W : Int) (a b : Option Addr) (n c m d : Nat) (f g : Nat → Int) (w : World) (hn : n ≤ 1048576) (hm : m ≤ 1048576) (hf : IL w a n f) (hg : IL w b m g) :
    Calls Try.prog 14 #[cnt W a n c b m d] w fun e w' => AnsC w w' e (cofW W (cntB W n f m g)) (cofN n (cntB W n f m g)) (fun i => kd (f i) (g i)) ∧ Below w.heap.size w w' := by
  obtain ⟨i0, hi, hzz⟩ := Option.map_eq_some_iff.1 infoI
  simp only [Prod.mk.injEq] at hzz
  obtain ⟨hz0, hz1, hz2⟩ := hzz
  have hgd := specGoodC W a b n c m d f g ((w.alloc (cntO W a n c b m d 26)).alloc (celO 0 none 0 0 34)) hn hm ((hf.alloc _).alloc _) ((hg.alloc _).alloc _)
  have bA0 := (bx_new (w := w) (cntL W a n c b m d) 26 rfl).alloc (celO 0 none 0 0 34)
  have bR0 := bx_new (w := w.alloc (cntO W a n c b m d 26)) (b := w.heap.size + 1) (celL 0 none 0 0) 34 (by simp)
  cases hs : cntB W n f m g with
  | false =>
    rw [hs] at hgd
    go_enter Try.func14, Try.ntmps14
    go_wp2_with fail
    refine hgd.mono ?_
    rintro e w1 ⟨rfl, hb1⟩
    have bR := bR0.on hb1
    have hB1 := below_al (below_al hb1)
    have r0 := bR.c0
    have r1 := bR.c1
    have f0 := bR.fz 0
    have f1 := bR.fz 1
    have bE := (bR.set 0 (by simp) (.int .i64 0)).set 1 (by simp) (.slice none 0 0)
    have hBE := (hB1.setCell (p := ⟨w.heap.size + 1, 0, none⟩) (by simp) (.int .i64 0)).setCell (p := ⟨w.heap.size + 1, 1, none⟩) (by simp) (.slice none 0 0)
    clear hgd bA0 bR0 hb1 hB1 bR
    go_wp2
    refine ret_cel Try.results14 rfl bE.c0 bE.c1 rfl ?_
    exact ⟨ansC_nil _ _ _, hBE⟩
  | true =>
    rw [hs] at hgd
    obtain ⟨hsz, rfl, -, -⟩ := cntB_parts hs
    have hN := sized_le hsz
    go_enter Try.func14, Try.ntmps14
    go_wp2_with fail
    refine hgd.mono ?_
    rintro e w1 ⟨rfl, hb1⟩
    have bR := bR0.on hb1
    have bA := bA0.on hb1
    have hB1 := below_al (below_al hb1)
    have lA := bA.lt
    have y0 := bA.c0
    have y1 := bA.c1
    have y2 := bA.c2
    clear hgd bA0 bR0 hb1
    go_wp2
    have hb0 : Below w1.heap.size w1 (w1.alloc (celO W none 0 0 34)) := (Below.refl _ _).alloc (Nat.le_refl _) _
    have bM0 := bx_new (w := w1) (celL W none 0 0) 34 rfl
    clear y0 y1 y2
    go_loopw [16] (fun i wr => ∃ (k : Nat) (v : Value), k ≤ m ∧ i = .int .i64 k ∧ Bx wr w1.heap.size [.int .i64 W, v] ∧ Own wr (w1.heap.size + 1) v k (fun i => kd (f i) (g i)) ∧ Below w1.heap.size w1 wr) (fun i _ => m - (intOf i).toNat)
    case atStart => exact ⟨0, _, Nat.zero_le _, rfl, bM0, World.ownsRow_nil _ _ _ _, hb0⟩
    case round =>
      obtain ⟨k, v, hk, rfl, bM, hown, hB⟩ := hrel
      clear hb0 bM0
      have hBw := hB1.trans (hB.mono hB1.size)
      have hbase : w1.heap.size + 1 ≤ wr.heap.size := bM.lt
      by_cases hlt : k < m
      · obtain ⟨p, off, rfl, hb, hc⟩ := hf (by omega)
        obtain ⟨p2, off2, rfl, hb2, hc2⟩ := hg (by omega)
        have x0 := (hBw.cell (p := ⟨p, off + k, none⟩) hb).trans (hc k hlt)
        have y0 := (hBw.cell (p := ⟨p2, off2 + k, none⟩) hb2).trans (hc2 k hlt)
        have bw := bA.on hB
        have z1 := bw.c1
        have z2 := bw.c2
        obtain ⟨sa, sc, rfl⟩ := hown.shape
        have u1 := bM.c1
        have j1 : (k : Int) < (m : Int) := by omega
        have hBb := Below.refl (w1.heap.size + 1) wr
        by_cases c0 : g k < f k
        · have c1 : ¬ f k < g k := by omega
          have hk2 : Hid (kd (f k) (g k) = 1) := (by unfold kd; rw [if_pos c0] : kd (f k) (g k) = 1)
          generalize f k = x at x0 c0 c1
          generalize g k = y at y0 c0 c1
          clear hc hc2 hf hg bA bR bw
          go_wp2_with fail
          go_region
          go_wp2_with fail
          go_region
          have hd : Below wr.heap.size wr wr.drew.drew := (Below.refl _ _).drew.drew
          replace hown := hown.below hd
          replace bM := bM.on hd
          replace u1 := bM.c1
          replace hbase : w1.heap.size + 1 ≤ wr.drew.drew.heap.size := hbase
          replace hB := hB.trans (hd.mono hB.size)
          replace hBb := Below.refl (w1.heap.size + 1) wr.drew.drew
          clear hBw x0 y0 z1 z2 hd
          generalize wr.drew.drew = wd at hown bM u1 hbase hB hBb ⊢
          go_wp2_with (at_builtin; refine wpList_append_own _ rfl _ _ 22 rfl (w1.heap.size + 1) 3 i0 (.int .i64 0) 1 8 Try.underlying22 hi hz0 hz1 hz2 rfl (by decide) _ _ _ rfl (World.ownsRow.alloc hown _) ⟨wd.heap.size, 0, none⟩ 1 1 [.int .i64 (1)] rfl rfl (cell_one_new _ _ _) (fun x hx => by simp at hx; subst hx; rfl) (by unfold maxLen; omega) (by omega) (by simp; omega) ?_; intro v' w3 hown' hgrow3 _; have hB3 := (hBb.alloc hbase (.cells #[.int .i64 (1)] 3)).grown hgrow3 (by simp; omega) (fun q hq => (World.ownsRow.lt hown q hq).1); have bM3 := bM.below hB3 (by omega); have t1 := bM3.c1; have t2 := bM3.fz 1; have hB4 := (hB.trans (hB3.mono (by omega))).setCell (p := ⟨w1.heap.size, 1, none⟩) (Nat.le_refl _) v'; have hown4 := (own_put hown').only ((Only.refl w1.heap.size w3).set 1 v') (Nat.lt_succ_self _); have bM4 := bM3.set 1 (by simp) v'; obtain ⟨sa', sc', rfl⟩ := (own_put hown').shape; clear bM bM3 hB3 hBb hown hown' hgrow3)
          exact ⟨⟨k + 1, _, by omega, by go_num, bM4, hown4.congr (fun i hi => by unfold put; by_cases e : i = k; { subst e; rw [if_pos rfl]; exact hk2.out.symm }; { rw [if_neg e] }), hB4⟩, by simp [intOf]; omega⟩
        by_cases c1 : f k < g k
        · have hk2 : Hid (kd (f k) (g k) = 0) := (by unfold kd; rw [if_neg c0, if_pos c1] : kd (f k) (g k) = 0)
          generalize f k = x at x0 c0 c1
          generalize g k = y at y0 c0 c1
          clear hc hc2 hf hg bA bR bw
          go_wp2_with fail
          go_region
          go_wp2_with fail
          go_region
          have hd : Below wr.heap.size wr wr.drew.drew := (Below.refl _ _).drew.drew
          replace hown := hown.below hd
          replace bM := bM.on hd
          replace u1 := bM.c1
          replace hbase : w1.heap.size + 1 ≤ wr.drew.drew.heap.size := hbase
          replace hB := hB.trans (hd.mono hB.size)
          replace hBb := Below.refl (w1.heap.size + 1) wr.drew.drew
          clear hBw x0 y0 z1 z2 hd
          generalize wr.drew.drew = wd at hown bM u1 hbase hB hBb ⊢
          go_wp2_with (at_builtin; refine wpList_append_own _ rfl _ _ 22 rfl (w1.heap.size + 1) 3 i0 (.int .i64 0) 1 8 Try.underlying22 hi hz0 hz1 hz2 rfl (by decide) _ _ _ rfl (World.ownsRow.alloc hown _) ⟨wd.heap.size, 0, none⟩ 1 1 [.int .i64 (0)] rfl rfl (cell_one_new _ _ _) (fun x hx => by simp at hx; subst hx; rfl) (by unfold maxLen; omega) (by omega) (by simp; omega) ?_; intro v' w3 hown' hgrow3 _; have hB3 := (hBb.alloc hbase (.cells #[.int .i64 (0)] 3)).grown hgrow3 (by simp; omega) (fun q hq => (World.ownsRow.lt hown q hq).1); have bM3 := bM.below hB3 (by omega); have t1 := bM3.c1; have t2 := bM3.fz 1; have hB4 := (hB.trans (hB3.mono (by omega))).setCell (p := ⟨w1.heap.size, 1, none⟩) (Nat.le_refl _) v'; have hown4 := (own_put hown').only ((Only.refl w1.heap.size w3).set 1 v') (Nat.lt_succ_self _); have bM4 := bM3.set 1 (by simp) v'; obtain ⟨sa', sc', rfl⟩ := (own_put hown').shape; clear bM bM3 hB3 hBb hown hown' hgrow3)
          exact ⟨⟨k + 1, _, by omega, by go_num, bM4, hown4.congr (fun i hi => by unfold put; by_cases e : i = k; { subst e; rw [if_pos rfl]; exact hk2.out.symm }; { rw [if_neg e] }), hB4⟩, by simp [intOf]; omega⟩
        · have hk2 : Hid (kd (f k) (g k) = 2) := (by unfold kd; rw [if_neg c0, if_neg c1] : kd (f k) (g k) = 2)
          generalize f k = x at x0 c0 c1
          generalize g k = y at y0 c0 c1
          clear hc hc2 hf hg bA bR bw
          go_wp2_with fail
          go_region
          go_wp2_with fail
          go_region
          have hd : Below wr.heap.size wr wr.drew.drew := (Below.refl _ _).drew.drew
          replace hown := hown.below hd
          replace bM := bM.on hd
          replace u1 := bM.c1
          replace hbase : w1.heap.size + 1 ≤ wr.drew.drew.heap.size := hbase
          replace hB := hB.trans (hd.mono hB.size)
          replace hBb := Below.refl (w1.heap.size + 1) wr.drew.drew
          clear hBw x0 y0 z1 z2 hd
          generalize wr.drew.drew = wd at hown bM u1 hbase hB hBb ⊢
          go_wp2_with (at_builtin; refine wpList_append_own _ rfl _ _ 22 rfl (w1.heap.size + 1) 3 i0 (.int .i64 0) 1 8 Try.underlying22 hi hz0 hz1 hz2 rfl (by decide) _ _ _ rfl (World.ownsRow.alloc hown _) ⟨wd.heap.size, 0, none⟩ 1 1 [.int .i64 (2)] rfl rfl (cell_one_new _ _ _) (fun x hx => by simp at hx; subst hx; rfl) (by unfold maxLen; omega) (by omega) (by simp; omega) ?_; intro v' w3 hown' hgrow3 _; have hB3 := (hBb.alloc hbase (.cells #[.int .i64 (2)] 3)).grown hgrow3 (by simp; omega) (fun q hq => (World.ownsRow.lt hown q hq).1); have bM3 := bM.below hB3 (by omega); have t1 := bM3.c1; have t2 := bM3.fz 1; have hB4 := (hB.trans (hB3.mono (by omega))).setCell (p := ⟨w1.heap.size, 1, none⟩) (Nat.le_refl _) v'; have hown4 := (own_put hown').only ((Only.refl w1.heap.size w3).set 1 v') (Nat.lt_succ_self _); have bM4 := bM3.set 1 (by simp) v'; obtain ⟨sa', sc', rfl⟩ := (own_put hown').shape; clear bM bM3 hB3 hBb hown hown' hgrow3)
          exact ⟨⟨k + 1, _, by omega, by go_num, bM4, hown4.congr (fun i hi => by unfold put; by_cases e : i = k; { subst e; rw [if_pos rfl]; exact hk2.out.symm }; { rw [if_neg e] }), hB4⟩, by simp [intOf]; omega⟩
      · have hke : k = m := by omega
        subst hke
        obtain ⟨sa, sc, rfl⟩ := hown.shape
        have br := bR.on hB
        have u0 := bM.c0
        have u1 := bM.c1
        have r0 := br.c0
        have r1 := br.c1
        have f0 := br.fz 0
        have f1 := br.fz 1
        have lR := bR.lt
        have bE := (br.set 0 (by simp) (.int .i64 W)).set 1 (by simp) (.slice sa k sc)
        have hBE := (hBw.setCell (p := ⟨w.heap.size + 1, 0, none⟩) (by simp) (.int .i64 W)).setCell (p := ⟨w.heap.size + 1, 1, none⟩) (by simp) (.slice sa k sc)
        have hL := lq_set (lq_set hown.lq (b := w.heap.size + 1) (k := 0) (.int .i64 W) (by omega)) (b := w.heap.size + 1) (k := 1) (.slice sa k sc) (by omega)
        have hs1 := hB1.size
        clear hf hg bA bR br bM hown
        go_wp2_with fail
        refine ret_cel Try.results14 rfl bE.c0 bE.c1 rfl ?_
        exact ⟨⟨_, _, rfl, hL.wide (by omega) (by simp only [size_set]; omega)⟩, hBE⟩
end Go.Proofs.Ytipopglbpfdcmab
