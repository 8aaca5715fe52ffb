/- LoopAt, on both sides. -/
import Derived.Test.YthmjoeknkenfgabGnGood
import Derived.Test.YthmjoeknkenfgabHdStepI
namespace Go.Proofs.Ythmjoeknkenfgab
open Go.RowKit

def fndL (F : Nat → Int) (t : Int) : Nat → Lp
  | 0 => lp0
  | k + 1 => if F (k * 8) ≤ t then lpAt F k else fndL F t k
def fndB (F : Nat → Int) (t : Int) : Nat → Bool
  | 0 => false
  | k + 1 => if F (k * 8) ≤ t then true else fndB F t k
def atL (F : Nat → Int) (n : Nat) (t : Int) : Lp := if goodsB F n then fndL F t n else lp0
def atB (F : Nat → Int) (n : Nat) (t : Int) : Bool := if goodsB F n then fndB F t n else false
theorem Bx.set7 {w : World} {b : Nat} {g : Lp} (c : Bx w b (lvs g)) (l : Lp) : Bx (((((((w.setCell ⟨b, 0, none⟩ (.int .i64 l.P)).setCell ⟨b, 1, none⟩ (.int .i64 l.I)).setCell ⟨b, 2, none⟩ (.int .i64 l.D)).setCell ⟨b, 3, none⟩ (.int .i64 l.S)).setCell ⟨b, 4, none⟩ (.int .i64 l.M)).setCell ⟨b, 5, none⟩ (.int .i64 l.W)).setCell ⟨b, 6, none⟩ (.int .i64 l.L)) b (lvs l) :=
  ((((((c.set 0 (by simp) _).set 1 (by simp) _).set 2 (by simp) _).set 3 (by simp) _).set 4 (by simp) _).set 5 (by simp) _).set 6 (by simp) _
theorem below_seven {B b : Nat} {w w1 : World} (h : Below B w w1) (hb : B ≤ b) (x y z u v r s : Value) : Below B w (((((((w1.setCell ⟨b, 0, none⟩ x).setCell ⟨b, 1, none⟩ y).setCell ⟨b, 2, none⟩ z).setCell ⟨b, 3, none⟩ u).setCell ⟨b, 4, none⟩ v).setCell ⟨b, 5, none⟩ r).setCell ⟨b, 6, none⟩ s) :=
  ((((((h.setCell (p := ⟨b, 0, none⟩) hb _).setCell (p := ⟨b, 1, none⟩) hb _).setCell (p := ⟨b, 2, none⟩) hb _).setCell (p := ⟨b, 3, none⟩) hb _).setCell (p := ⟨b, 4, none⟩) hb _).setCell (p := ⟨b, 5, none⟩) hb _).setCell (p := ⟨b, 6, none⟩) hb _
theorem bx_seven {w : World} {b b' : Nat} {vs : List Value} (h : Bx w b vs) (hn : b ≠ b') (x y z u v r s : Value) : Bx (((((((w.setCell ⟨b', 0, none⟩ x).setCell ⟨b', 1, none⟩ y).setCell ⟨b', 2, none⟩ z).setCell ⟨b', 3, none⟩ u).setCell ⟨b', 4, none⟩ v).setCell ⟨b', 5, none⟩ r).setCell ⟨b', 6, none⟩ s) b vs :=
  ((((((h.far _ hn).far _ hn).far _ hn).far _ hn).far _ hn).far _ hn).far _ hn
theorem ret_at {fn : Func} {t u : Tmp} {R : Ending → World → Prop} {a : Act} {w : World} {b : Nat} {l : Lp} (e : fn.results = #[.cell t 29, .tmp u]) (hp : a.tmps.getD t undef = .pointer (some ⟨b, 0, none⟩)) (c : Bx w b (lvs l)) (hd : a.defers = [])
    (hR : R (.returned (.tuple #[lv l, a.tmps.getD u undef])) w) : bodyPost Try.prog fn R .ret a w := by
  refine bodyPost_ret ?_ hd hR
  rw [results_cell_tmp e, hp]
  obtain ⟨x0, x1, x2, x3, x4, x5, x6⟩ := loop_at c
  simp [asAddr, loadVar, go_sem, x0, x1, x2, x3, x4, x5, x6]

set_option maxHeartbeats 4000000 in
set_option maxRecDepth 20000 in
theorem implAt_no (a : Option Addr) (n cap : Nat) (F : Nat → Int) (t : Int) (w : World) (hA : IL w a (n * 8) F) (hg : goodsB F n = false) :
    Calls Try.prog 24 #[.slice a n cap, .int .i64 t] w fun e w' => e = .returned (.tuple #[lv lp0, .bool false]) ∧ Below w.heap.size w w' := by
  have r0 := bx_new (b := w.heap.size) (w := w) (lvs lp0) 29 rfl
  have hB0 : Below w.heap.size w (w.alloc (lvo lp0)) := below_al (Below.refl _ _)
  have hG := fun w h => goodGains_any a n cap F w h
  rw [hg] at hG
  have hA1 := hA.below hB0
  go_enter Try.func24, Try.ntmps24
  go_wp2_with fail
  refine (hG _ hA1).mono ?_
  rintro e w1 ⟨rfl, hb⟩
  have r1 := r0.on hb
  have hB1 := stepA hB0 hb
  clear hb r0 hB0 hG hA1
  obtain ⟨s0, s1, s2, s3, s4, s5, s6⟩ := loop_at r1
  have f0 := r1.fz 0
  have f1 := r1.fz 1
  have f2 := r1.fz 2
  have f3 := r1.fz 3
  have f4 := r1.fz 4
  have f5 := r1.fz 5
  have f6 := r1.fz 6
  go_wp2
  exact ret_at rfl rfl (r1.set7 lp0) rfl ⟨rfl, below_seven hB1 (by omega) _ _ _ _ _ _ _⟩

set_option maxHeartbeats 4000000 in
set_option maxRecDepth 20000 in
theorem implAt_in (a : Option Addr) (n cap : Nat) (F : Nat → Int) (t : Int) (w : World) (hn : n ≤ 60) (hA : IL w a (n * 8) F) (hg : goodsB F n = true) :
    Calls Try.prog 24 #[.slice a n cap, .int .i64 t] w fun e w' => e = .returned (.tuple #[lv (fndL F t n), .bool (fndB F t n)]) ∧ Below w.heap.size w w' := by
  have r0 := bx_new (b := w.heap.size) (w := w) (lvs lp0) 29 rfl
  have hB0 : Below w.heap.size w (w.alloc (lvo lp0)) := below_al (Below.refl _ _)
  have hG := fun w h => goodGains_any a n cap F w h
  rw [hg] at hG
  have hA1 := hA.below hB0
  generalize hU : fndL F t n = U
  generalize hV : fndB F t n = V
  have HU : Hid (fndL F t n = U) := hU
  have HV : Hid (fndB F t n = V) := hV
  clear hU hV hg
  go_enter Try.func24, Try.ntmps24
  go_wp2_with fail
  refine (hG _ hA1).mono ?_
  rintro e w1 ⟨rfl, hb⟩
  have r1 := (r0.on hb).alloc (lvo lp0)
  have hs1 : w.heap.size < w1.heap.size := (r0.on hb).lt
  have fo := bx_new (b := w1.heap.size) (w := w1) (lvs lp0) 29 rfl
  have hB1 : Below w.heap.size w (w1.alloc (lvo lp0)) := (stepA hB0 hb).alloc (stepA hB0 hb).size _
  clear hb r0 hB0 hG hA1
  go_wp2_with fail
  generalize w1.alloc (lvo lp0) = w2 at r1 fo hB1 ⊢
  generalize w1.heap.size = K at fo hs1 ⊢
  go_loopw [7, 17] (fun sb i wr => ∃ k : Nat, k ≤ n ∧ i = .int .i64 k ∧ sb = .bool (fndB F t k) ∧ Bx wr w.heap.size (lvs lp0) ∧ Bx wr K (lvs (fndL F t k)) ∧ Below w.heap.size w wr) (fun _ i _ => n - (intOf i).toNat)
  case atStart => exact ⟨0, Nat.zero_le _, rfl, rfl, r1, fo, hB1⟩
  case round =>
    obtain ⟨k, hk, rfl, rfl, c0, c1, hB⟩ := hrel
    clear r1 fo hB1
    by_cases hlt : k < n
    · have j3 : (k : Int) < (n : Int) := by omega
      obtain ⟨ba, oa, rfl, hba, y0, y1, y2, y3, y4, y5, y6, y7⟩ := il_eight (hA.below hB) hlt
      have e1 : fndL F t (k + 1) = if F (k * 8) ≤ t then lpAt F k else fndL F t k := rfl
      have e2 : fndB F t (k + 1) = if F (k * 8) ≤ t then true else fndB F t k := rfl
      have H1 : Hid (fndL F t (k + 1) = if F (k * 8) ≤ t then lpAt F k else fndL F t k) := e1
      have H2 : Hid (fndB F t (k + 1) = if F (k * 8) ≤ t then true else fndB F t k) := e2
      clear e1 e2 hA
      generalize fndL F t k = l0 at c1 H1
      generalize fndB F t k = b0 at H2 ⊢
      generalize hL : lpAt F k = L at H1
      have eP : F (k * 8 + 1) = L.P := by rw [← hL]; rfl
      have eI : F (k * 8 + 2) = L.I := by rw [← hL]; rfl
      have eD : F (k * 8 + 3) = L.D := by rw [← hL]; rfl
      have eS : F (k * 8 + 4) = L.S := by rw [← hL]; rfl
      have eM : F (k * 8 + 5) = L.M := by rw [← hL]; rfl
      have eW : F (k * 8 + 6) = L.W := by rw [← hL]; rfl
      have eL : F (k * 8 + 7) = L.L := by rw [← hL]; rfl
      rw [eP] at y1
      rw [eI] at y2
      rw [eD] at y3
      rw [eS] at y4
      rw [eM] at y5
      rw [eW] at y6
      rw [eL] at y7
      clear hL eP eI eD eS eM eW eL
      generalize hX : F (k * 8) = X at y0 H1 H2
      clear hX
      have cg := bx_new (b := wr.heap.size) (w := wr) (gvs X L) 64 rfl
      have d0 := c0.alloc (gvo X L)
      have d1 := c1.alloc (gvo X L)
      have hB5 : Below w.heap.size w (wr.alloc (gvo X L)) := hB.alloc hB.size _
      have hsz := c1.lt
      go_upto_region 7 with fail
      clear y0 y1 y2 y3 y4 y5 y6 y7 c0 c1 hB
      generalize wr.alloc (gvo X L) = w5 at cg d0 d1 hB5 ⊢
      generalize wr.heap.size = N at cg hsz ⊢
      obtain ⟨v0, v1, v2, v3, v4, v5, v6, v7⟩ := gain_at cg
      by_cases hx : X ≤ t
      · obtain ⟨z0, z1, z2, z3, z4, z5, z6⟩ := loop_at d1
        have f0 := d1.fz 0
        have f1 := d1.fz 1
        have f2 := d1.fz 2
        have f3 := d1.fz 3
        have f4 := d1.fz 4
        have f5 := d1.fz 5
        have f6 := d1.fz 6
        go_wp2
        go_roundw
        case rel => exact ⟨k + 1, by omega, by go_num, by rw [H2.out, if_pos hx], bx_seven d0 (by omega) _ _ _ _ _ _ _, by rw [H1.out, if_pos hx]; exact d1.set7 L, below_seven hB5 (by omega) _ _ _ _ _ _ _⟩
        case measure => simp [intOf]; omega
      · go_wp2
        go_roundw
        case rel => exact ⟨k + 1, by omega, by go_num, by rw [H2.out, if_neg (by omega)], d0, by rw [H1.out, if_neg (by omega)]; exact d1, hB5⟩
        case measure => simp [intOf]; omega
    · have hke : k = n := by omega
      subst hke
      have e1 := HU.out
      have e2 := HV.out
      rw [e1] at c1
      rw [e2]
      clear e1 e2 HU HV hA
      obtain ⟨z0, z1, z2, z3, z4, z5, z6⟩ := loop_at c1
      obtain ⟨r0, r1, r2, r3, r4, r5, r6⟩ := loop_at c0
      have f0 := c0.fz 0
      have f1 := c0.fz 1
      have f2 := c0.fz 2
      have f3 := c0.fz 3
      have f4 := c0.fz 4
      have f5 := c0.fz 5
      have f6 := c0.fz 6
      go_wp2
      exact ret_at rfl rfl (c0.set7 U) rfl ⟨rfl, below_seven hB (by omega) _ _ _ _ _ _ _⟩
theorem implAt (a : Option Addr) (n cap : Nat) (F : Nat → Int) (t : Int) (w : World) (hA : IL w a (n * 8) F) :
    Calls Try.prog 24 #[.slice a n cap, .int .i64 t] w fun e w' => e = .returned (.tuple #[lv (atL F n t), .bool (atB F n t)]) ∧ Below w.heap.size w w' := by
  unfold atL atB
  cases hg : goodsB F n
  · rw [if_neg (by decide), if_neg (by decide)]
    exact implAt_no a n cap F t w hA hg
  · rw [if_pos rfl, if_pos rfl]
    refine implAt_in a n cap F t w ?_ hA hg
    unfold goodsB at hg
    simp only [Bool.and_eq_true, decide_eq_true_eq] at hg
    exact hg.1

set_option maxHeartbeats 4000000 in
set_option maxRecDepth 20000 in
theorem specAt_no (a : Option Addr) (n cap : Nat) (t : Int) (w : World) (hn : ¬ n ≤ 60) :
    Calls Try.prog 22 #[.slice a n cap, .int .i64 t] w fun e w' => e = .returned (.tuple #[lv lp0, .bool false]) ∧ Below w.heap.size w w' := by
  have r0 := bx_new (b := w.heap.size) (w := w) (lvs lp0) 29 rfl
  have hB0 : Below w.heap.size w (w.alloc (lvo lp0)) := below_al (Below.refl _ _)
  have j1 : ¬ (n : Int) ≤ 60 := by omega
  go_enter Try.func22, Try.ntmps22
  go_upto_region 1 with fail
  generalize w.alloc (lvo lp0) = w1 at r0 hB0 ⊢
  obtain ⟨s0, s1, s2, s3, s4, s5, s6⟩ := loop_at r0
  have f0 := r0.fz 0
  have f1 := r0.fz 1
  have f2 := r0.fz 2
  have f3 := r0.fz 3
  have f4 := r0.fz 4
  have f5 := r0.fz 5
  have f6 := r0.fz 6
  go_wp2
  exact ret_at rfl rfl (r0.set7 lp0) rfl ⟨rfl, below_seven hB0 (by omega) _ _ _ _ _ _ _⟩

set_option maxHeartbeats 8000000 in
set_option maxRecDepth 20000 in
theorem specAt_in (a : Option Addr) (n cap : Nat) (F : Nat → Int) (t : Int) (w : World) (hn : n ≤ 60) (hA : IL w a (n * 8) F) (U : Lp) (V : Bool)
    (HY : Hid (okG F n = true → U = fndL F t n ∧ V = fndB F t n)) (HN : Hid (okG F n = false → U = lp0 ∧ V = false)) :
    Calls Try.prog 22 #[.slice a n cap, .int .i64 t] w fun e w' => e = .returned (.tuple #[lv U, .bool V]) ∧ Below w.heap.size w w' := by
  have r0 : Bx (w.alloc (lvo lp0)) w.heap.size (lvs lp0) := bx_new _ _ rfl
  have r1 := r0.alloc (lvo lp0)
  have fo : Bx ((w.alloc (lvo lp0)).alloc (lvo lp0)) (w.heap.size + 1) (lvs lp0) := bx_new _ _ (by simp only [size_al])
  have hB1 : Below w.heap.size w ((w.alloc (lvo lp0)).alloc (lvo lp0)) := ((Below.refl _ _).alloc (Nat.le_refl _) _).alloc (by simp) _
  have j1 : (n : Int) ≤ 60 := by omega
  clear r0
  go_enter Try.func22, Try.ntmps22
  go_wp2_with fail
  generalize (w.alloc (lvo lp0)).alloc (lvo lp0) = w2 at r1 fo hB1 ⊢
  go_loopw [7, 17] (fun sb i wr => ∃ k : Nat, k ≤ n ∧ i = .int .i64 k ∧ sb = .bool (fndB F t k) ∧ okG F k = true ∧ Bx wr w.heap.size (lvs lp0) ∧ Bx wr (w.heap.size + 1) (lvs (fndL F t k)) ∧ Below w.heap.size w wr) (fun _ i _ => n - (intOf i).toNat)
  case atStart => exact ⟨0, Nat.zero_le _, rfl, rfl, rfl, r1, fo, hB1⟩
  case round =>
    obtain ⟨k, hk, rfl, rfl, hok, c0, c1, hB⟩ := hrel
    have HOK : Hid (okG F k = true) := hok
    clear r1 fo hB1 hok
    by_cases hlt : k < n
    · have hlt0 := hlt
      have H1 : Hid (fndL F t (k + 1) = if F (k * 8) ≤ t then lpAt F k else fndL F t k) := rfl
      have H2 : Hid (fndB F t (k + 1) = if F (k * 8) ≤ t then true else fndB F t k) := rfl
      generalize fndL F t k = l0 at c1 H1
      generalize fndB F t k = b0 at H2 ⊢
      obtain ⟨ba, oa, rfl, hba, y0, y1, y2, y3, y4, y5, y6, y7⟩ := il_eight (hA.below hB) hlt
      have hpv : 0 < k → wr.cell? ⟨ba, oa + (k - 1) * 8, none⟩ = some (.int .i64 (F ((k - 1) * 8))) := fun hk0 => by
        obtain ⟨b2, o2, e2, hb2, z0, -⟩ := il_eight (hA.below hB) (show k - 1 < n by omega)
        cases e2
        exact z0
      have j3 : (k : Int) < (n : Int) := by omega
      have hA0 : IL w (some ⟨ba, oa, none⟩) (n * 8) F := hA
      clear hA
      have hG := fun w => specGoodL (lpAt F k) w
      generalize hL : lpAt F k = L at hG
      have HL : Hid (lpAt F k = L) := hL
      have eP : F (k * 8 + 1) = L.P := by rw [← hL]; rfl
      have eI : F (k * 8 + 2) = L.I := by rw [← hL]; rfl
      have eD : F (k * 8 + 3) = L.D := by rw [← hL]; rfl
      have eS : F (k * 8 + 4) = L.S := by rw [← hL]; rfl
      have eM : F (k * 8 + 5) = L.M := by rw [← hL]; rfl
      have eW : F (k * 8 + 6) = L.W := by rw [← hL]; rfl
      have eL : F (k * 8 + 7) = L.L := by rw [← hL]; rfl
      rw [eP] at y1
      rw [eI] at y2
      rw [eD] at y3
      rw [eS] at y4
      rw [eM] at y5
      rw [eW] at y6
      rw [eL] at y7
      clear hL eP eI eD eS eM eW eL
      generalize hX : F (k * 8) = X at y0
      have HX : Hid (F (k * 8) = X) := hX
      generalize hYY : F ((k - 1) * 8) = Y at hpv
      have HYY : Hid (F ((k - 1) * 8) = Y) := hYY
      generalize hst : stepG F k = st
      have HST : Hid (stepG F k = st) := hst
      clear hX hYY hst
      have cg := bx_new (b := wr.heap.size) (w := wr) (gvs X L) 64 rfl
      have hb5 : Below wr.heap.size wr (wr.alloc (gvo X L)) := (Below.refl _ _).alloc (Nat.le_refl _) _
      have hp5 : 0 < k → (wr.alloc (gvo X L)).cell? ⟨ba, oa + (k - 1) * 8, none⟩ = some (.int .i64 Y) := fun h0 => (hb5.cell (p := ⟨ba, _, none⟩) hba).trans (hpv h0)
      have HPR : Hid (0 < k → (wr.alloc (gvo X L)).cell? ⟨ba, oa + (k - 1) * 8, none⟩ = some (.int .i64 Y)) := hp5
      clear hp5 hpv
      have d0 := c0.alloc (gvo X L)
      have d1 := c1.alloc (gvo X L)
      have hsz := c1.lt
      go_upto_region 8 with fail
      have hB5 := stepA hB hb5
      clear y0 y1 y2 y3 y4 y5 y6 y7 hb5 hB c0 c1
      generalize wr.alloc (gvo X L) = w5 at cg HPR hB5 d0 d1 ⊢
      generalize wr.heap.size = N at cg hsz ⊢
      go_upto_region 8 with fail
      have hw0 := Below.refl w5.heap.size w5
      go_cut [40] from 22 to 40 (fun sx wx => sx = .bool (!st) ∧ Below w5.heap.size w5 wx)
      case first =>
        cases hg : goodL L with
        | false =>
          rw [hg] at hG
          obtain ⟨v0, v1, v2, v3, v4, v5, v6, v7⟩ := gain_at cg
          refine wp_region_any (by kernel_rfl) ?_
          change wpAny _ _ _ _ _ _ _ (World.drew _)
          refine wpAny_take (i := 0) (v := ?_) rfl (by kernel_rfl) (by kernel_rfl) (by kernel_rfl) (fun _ _ _ h => h) (Or.inl ⟨by kernel_rfl, by intro w; go_simp; try (with_reducible rfl)⟩) ?_
          simp [Act.put]
          refine wpAny_ready (rs := [1]) (by kernel_rfl) (by simp) ?_
          refine AllReady.cons rfl (fun K hK => ?_) AllReady.nil
          go_simp
          refine hK _ _ ?_
          clear hK K
          refine wpAny_ready (rs := [2]) (by kernel_rfl) (by simp) ?_
          refine AllReady.cons rfl (fun K hK => ?_) AllReady.nil
          go_simp
          go_wp2_with (first | (go_at_call 38; refine (hG _).mono ?_; rintro e w6 ⟨rfl, hbn⟩; have hw1 := stepA hw0.drew hbn; clear hbn; obtain ⟨u0, u1, u2, u3, u4, u5, u6, u7⟩ := gain_at (cg.on hw1)) | (fail))
          refine wpAny_take (i := 3) (v := ?_) rfl (by kernel_rfl) (by kernel_rfl) (by kernel_rfl) (fun _ _ _ h => h) (Or.inl ⟨by kernel_rfl, by intro w; go_simp; try (with_reducible rfl)⟩) ?_
          simp [Act.put]
          refine wpAny_take (i := 4) (v := ?_) rfl (by kernel_rfl) (by kernel_rfl) (by kernel_rfl) (fun _ _ _ h => h) (Or.inl ⟨by kernel_rfl, by intro w; go_simp; try (with_reducible rfl)⟩) ?_
          simp [Act.put]
          refine wpAny_take (i := 5) (v := undef) rfl (by kernel_rfl) (by kernel_rfl) (by kernel_rfl) (fun _ _ _ h => h) (Or.inr ⟨by kernel_rfl, rfl⟩) ?_
          simp [Act.put]
          refine wpAny_take (i := 6) (v := undef) rfl (by kernel_rfl) (by kernel_rfl) (by kernel_rfl) (fun _ _ _ h => h) (Or.inr ⟨by kernel_rfl, rfl⟩) ?_
          simp [Act.put]
          refine wpAny_take (i := 7) (v := undef) rfl (by kernel_rfl) (by kernel_rfl) (by kernel_rfl) (fun _ _ _ h => h) (Or.inr ⟨by kernel_rfl, rfl⟩) ?_
          simp [Act.put]
          refine wpAny_take (i := 8) (v := undef) rfl (by kernel_rfl) (by kernel_rfl) (by kernel_rfl) (fun _ _ _ h => h) (Or.inr ⟨by kernel_rfl, rfl⟩) ?_
          simp [Act.put]
          refine wpAny_take (i := 9) (v := undef) rfl (by kernel_rfl) (by kernel_rfl) (by kernel_rfl) (fun _ _ _ h => h) (Or.inr ⟨by kernel_rfl, rfl⟩) ?_
          simp [Act.put]
          refine wpAny_take (i := 10) (v := undef) rfl (by kernel_rfl) (by kernel_rfl) (by kernel_rfl) (fun _ _ _ h => h) (Or.inr ⟨by kernel_rfl, rfl⟩) ?_
          simp [Act.put]
          refine wpAny_take (i := 11) (v := undef) rfl (by kernel_rfl) (by kernel_rfl) (by kernel_rfl) (fun _ _ _ h => h) (Or.inr ⟨by kernel_rfl, rfl⟩) ?_
          simp [Act.put]
          refine wpAny_take (i := 12) (v := undef) rfl (by kernel_rfl) (by kernel_rfl) (by kernel_rfl) (fun _ _ _ h => h) (Or.inr ⟨by kernel_rfl, rfl⟩) ?_
          simp [Act.put]
          refine wpAny_take (i := 13) (v := undef) rfl (by kernel_rfl) (by kernel_rfl) (by kernel_rfl) (fun _ _ _ h => h) (Or.inr ⟨by kernel_rfl, rfl⟩) ?_
          simp [Act.put]
          refine wpAny_take (i := 14) (v := undef) rfl (by kernel_rfl) (by kernel_rfl) (by kernel_rfl) (fun _ _ _ h => h) (Or.inr ⟨by kernel_rfl, rfl⟩) ?_
          simp [Act.put]
          refine wpAny_take (i := 15) (v := undef) rfl (by kernel_rfl) (by kernel_rfl) (by kernel_rfl) (fun _ _ _ h => h) (Or.inr ⟨by kernel_rfl, rfl⟩) ?_
          simp [Act.put]
          refine wpAny_take (i := 16) (v := undef) rfl (by kernel_rfl) (by kernel_rfl) (by kernel_rfl) (fun _ _ _ h => h) (Or.inr ⟨by kernel_rfl, rfl⟩) ?_
          simp [Act.put]
          refine wpAny_take (i := 17) (v := undef) rfl (by kernel_rfl) (by kernel_rfl) (by kernel_rfl) (fun _ _ _ h => h) (Or.inr ⟨by kernel_rfl, rfl⟩) ?_
          simp [Act.put]
          refine wpAny_take (i := 18) (v := ?_) rfl (by kernel_rfl) (by kernel_rfl) (by kernel_rfl) (fun _ _ _ h => h) (Or.inl ⟨by kernel_rfl, by intro w; go_simp; try (with_reducible rfl)⟩) ?_
          simp [Act.put]
          refine wpAny_done (by kernel_rfl) ?_ _
          go_wp2_with fail
          go_meet
          case rel => exact ⟨by rw [← HST.out]; unfold stepG; rw [← HL.out] at hg; rw [hg]; rfl, hw1⟩
        | true =>
          rw [hg] at hG
          by_cases hk0 : k = 0
          · subst hk0
            have i0 : ¬ (0 : Int) < ((0 : Nat) : Int) := by omega
            obtain ⟨v0, v1, v2, v3, v4, v5, v6, v7⟩ := gain_at cg
            refine wp_region_any (by kernel_rfl) ?_
            change wpAny _ _ _ _ _ _ _ (World.drew _)
            refine wpAny_take (i := 0) (v := ?_) rfl (by kernel_rfl) (by kernel_rfl) (by kernel_rfl) (fun _ _ _ h => h) (Or.inl ⟨by kernel_rfl, by intro w; go_simp; try (with_reducible rfl)⟩) ?_
            simp [Act.put]
            refine wpAny_ready (rs := [1]) (by kernel_rfl) (by simp) ?_
            refine AllReady.cons rfl (fun K hK => ?_) AllReady.nil
            go_simp
            refine hK _ _ ?_
            clear hK K
            refine wpAny_ready (rs := [2]) (by kernel_rfl) (by simp) ?_
            refine AllReady.cons rfl (fun K hK => ?_) AllReady.nil
            go_simp
            go_wp2_with (first | (go_at_call 38; refine (hG _).mono ?_; rintro e w6 ⟨rfl, hbn⟩; have hw1 := stepA hw0.drew hbn; clear hbn; obtain ⟨u0, u1, u2, u3, u4, u5, u6, u7⟩ := gain_at (cg.on hw1)) | (fail))
            refine wpAny_take (i := 3) (v := ?_) rfl (by kernel_rfl) (by kernel_rfl) (by kernel_rfl) (fun _ _ _ h => h) (Or.inl ⟨by kernel_rfl, by intro w; go_simp; try (with_reducible rfl)⟩) ?_
            simp [Act.put]
            refine wpAny_take (i := 4) (v := ?_) rfl (by kernel_rfl) (by kernel_rfl) (by kernel_rfl) (fun _ _ _ h => h) (Or.inl ⟨by kernel_rfl, by intro w; go_simp; try (with_reducible rfl)⟩) ?_
            simp [Act.put]
            refine wpAny_take (i := 5) (v := ?_) rfl (by kernel_rfl) (by kernel_rfl) (by kernel_rfl) (fun _ _ _ h => h) (Or.inl ⟨by kernel_rfl, by intro w; go_simp; try (with_reducible rfl)⟩) ?_
            simp [Act.put]
            refine wpAny_take (i := 6) (v := ?_) rfl (by kernel_rfl) (by kernel_rfl) (by kernel_rfl) (fun _ _ _ h => h) (Or.inl ⟨by kernel_rfl, by intro w; go_simp; try (with_reducible rfl)⟩) ?_
            simp [Act.put]
            refine wpAny_take (i := 7) (v := ?_) rfl (by kernel_rfl) (by kernel_rfl) (by kernel_rfl) (fun _ _ _ h => h) (Or.inl ⟨by kernel_rfl, by intro w; go_simp; try (with_reducible rfl)⟩) ?_
            simp [Act.put]
            refine wpAny_take (i := 8) (v := undef) rfl (by kernel_rfl) (by kernel_rfl) (by kernel_rfl) (fun _ _ _ h => h) (Or.inr ⟨by kernel_rfl, rfl⟩) ?_
            simp [Act.put]
            refine wpAny_take (i := 9) (v := undef) rfl (by kernel_rfl) (by kernel_rfl) (by kernel_rfl) (fun _ _ _ h => h) (Or.inr ⟨by kernel_rfl, rfl⟩) ?_
            simp [Act.put]
            refine wpAny_take (i := 10) (v := undef) rfl (by kernel_rfl) (by kernel_rfl) (by kernel_rfl) (fun _ _ _ h => h) (Or.inr ⟨by kernel_rfl, rfl⟩) ?_
            simp [Act.put]
            refine wpAny_take (i := 11) (v := undef) rfl (by kernel_rfl) (by kernel_rfl) (by kernel_rfl) (fun _ _ _ h => h) (Or.inr ⟨by kernel_rfl, rfl⟩) ?_
            simp [Act.put]
            refine wpAny_take (i := 12) (v := undef) rfl (by kernel_rfl) (by kernel_rfl) (by kernel_rfl) (fun _ _ _ h => h) (Or.inr ⟨by kernel_rfl, rfl⟩) ?_
            simp [Act.put]
            refine wpAny_take (i := 13) (v := undef) rfl (by kernel_rfl) (by kernel_rfl) (by kernel_rfl) (fun _ _ _ h => h) (Or.inr ⟨by kernel_rfl, rfl⟩) ?_
            simp [Act.put]
            refine wpAny_take (i := 14) (v := undef) rfl (by kernel_rfl) (by kernel_rfl) (by kernel_rfl) (fun _ _ _ h => h) (Or.inr ⟨by kernel_rfl, rfl⟩) ?_
            simp [Act.put]
            refine wpAny_take (i := 15) (v := undef) rfl (by kernel_rfl) (by kernel_rfl) (by kernel_rfl) (fun _ _ _ h => h) (Or.inr ⟨by kernel_rfl, rfl⟩) ?_
            simp [Act.put]
            refine wpAny_take (i := 16) (v := undef) rfl (by kernel_rfl) (by kernel_rfl) (by kernel_rfl) (fun _ _ _ h => h) (Or.inr ⟨by kernel_rfl, rfl⟩) ?_
            simp [Act.put]
            refine wpAny_take (i := 17) (v := ?_) rfl (by kernel_rfl) (by kernel_rfl) (by kernel_rfl) (fun _ _ _ h => h) (Or.inl ⟨by kernel_rfl, by intro w; go_simp; try (with_reducible rfl)⟩) ?_
            simp [Act.put]
            refine wpAny_take (i := 18) (v := ?_) rfl (by kernel_rfl) (by kernel_rfl) (by kernel_rfl) (fun _ _ _ h => h) (Or.inl ⟨by kernel_rfl, by intro w; go_simp; try (with_reducible rfl)⟩) ?_
            simp [Act.put]
            refine wpAny_done (by kernel_rfl) ?_ _
            go_wp2_with fail
            go_meet
            case rel => exact ⟨by rw [← HST.out]; unfold stepG; rw [← HL.out] at hg; rw [hg]; rfl, hw1⟩
          · have i0 : (0 : Int) < (k : Int) := by omega
            have i1 : (0 : Int) ≤ (k : Int) - 1 := by omega
            have i2 : (k : Int) - 1 < (n : Int) := by omega
            have i4 : (1 : Int) ≤ (k : Int) := by omega
            have hkp : 0 < k := by omega
            have hwk : IntKind.i64.wrap ((k : Int) - 1) = (k : Int) - 1 := IntWalk.i64_in _ ⟨by omega, by omega⟩
            have hpr := HPR.out (by omega)
            by_cases hlt2 : Y < X
            · have i3 : ¬ X ≤ Y := by omega
              obtain ⟨v0, v1, v2, v3, v4, v5, v6, v7⟩ := gain_at cg
              refine wp_region_any (by kernel_rfl) ?_
              change wpAny _ _ _ _ _ _ _ (World.drew _)
              refine wpAny_take (i := 0) (v := ?_) rfl (by kernel_rfl) (by kernel_rfl) (by kernel_rfl) (fun _ _ _ h => h) (Or.inl ⟨by kernel_rfl, by intro w; go_simp; try (with_reducible rfl)⟩) ?_
              simp [Act.put]
              refine wpAny_ready (rs := [1]) (by kernel_rfl) (by simp) ?_
              refine AllReady.cons rfl (fun K hK => ?_) AllReady.nil
              go_simp
              refine hK _ _ ?_
              clear hK K
              refine wpAny_ready (rs := [2]) (by kernel_rfl) (by simp) ?_
              refine AllReady.cons rfl (fun K hK => ?_) AllReady.nil
              go_simp
              go_wp2_with (first | (go_at_call 38; refine (hG _).mono ?_; rintro e w6 ⟨rfl, hbn⟩; have hw1 := stepA hw0.drew hbn; clear hbn; obtain ⟨u0, u1, u2, u3, u4, u5, u6, u7⟩ := gain_at (cg.on hw1); have u8 := (hw1.cell (p := ⟨ba, _, none⟩) (World.block_lt_of_cell? _ _ hpr)).trans hpr) | (fail))
              refine wpAny_take (i := 3) (v := ?_) rfl (by kernel_rfl) (by kernel_rfl) (by kernel_rfl) (fun _ _ _ h => h) (Or.inl ⟨by kernel_rfl, by intro w; go_simp; try (with_reducible rfl)⟩) ?_
              simp [Act.put]
              refine wpAny_take (i := 4) (v := ?_) rfl (by kernel_rfl) (by kernel_rfl) (by kernel_rfl) (fun _ _ _ h => h) (Or.inl ⟨by kernel_rfl, by intro w; go_simp; try (with_reducible rfl)⟩) ?_
              simp [Act.put]
              refine wpAny_take (i := 5) (v := ?_) rfl (by kernel_rfl) (by kernel_rfl) (by kernel_rfl) (fun _ _ _ h => h) (Or.inl ⟨by kernel_rfl, by intro w; go_simp; try (with_reducible rfl)⟩) ?_
              simp [Act.put]
              refine wpAny_take (i := 6) (v := ?_) rfl (by kernel_rfl) (by kernel_rfl) (by kernel_rfl) (fun _ _ _ h => h) (Or.inl ⟨by kernel_rfl, by intro w; go_simp; try (with_reducible rfl)⟩) ?_
              simp [Act.put]
              refine wpAny_take (i := 7) (v := ?_) rfl (by kernel_rfl) (by kernel_rfl) (by kernel_rfl) (fun _ _ _ h => h) (Or.inl ⟨by kernel_rfl, by intro w; go_simp; try (with_reducible rfl)⟩) ?_
              simp [Act.put]
              refine wpAny_take (i := 8) (v := ?_) rfl (by kernel_rfl) (by kernel_rfl) (by kernel_rfl) (fun _ _ _ h => h) (Or.inl ⟨by kernel_rfl, by intro w; go_simp; try (with_reducible rfl)⟩) ?_
              simp [Act.put]
              refine wpAny_take (i := 9) (v := ?_) rfl (by kernel_rfl) (by kernel_rfl) (by kernel_rfl) (fun _ _ _ h => h) (Or.inl ⟨by kernel_rfl, by intro w; go_simp; try (with_reducible rfl)⟩) ?_
              simp [Act.put]
              refine wpAny_take (i := 10) (v := ?_) rfl (by kernel_rfl) (by kernel_rfl) (by kernel_rfl) (fun _ _ _ h => h) (Or.inl ⟨by kernel_rfl, by intro w; go_simp; try (with_reducible rfl)⟩) ?_
              simp [Act.put]
              refine wpAny_take (i := 14) (v := ?_) rfl (by kernel_rfl) (by kernel_rfl) (by kernel_rfl) (fun _ _ _ h => h) (Or.inl ⟨by kernel_rfl, by intro w; go_simp; try (with_reducible rfl)⟩) ?_
              simp [Act.put]
              refine wpAny_ready (rs := [11, 15]) (by kernel_rfl) (by simp) ?_
              refine AllReady.cons rfl (fun K hK => ?_) (AllReady.cons rfl (fun K hK => ?_) AllReady.nil)
              · go_simp
                refine hK _ _ ?_
                clear hK K
                refine wpAny_take (i := 12) (v := ?_) rfl (by kernel_rfl) (by kernel_rfl) (by kernel_rfl) (fun _ _ _ h => h) (Or.inl ⟨by kernel_rfl, by intro w; go_simp; try (with_reducible rfl)⟩) ?_
                simp [Act.put]
                refine wpAny_ready (rs := [13, 15]) (by kernel_rfl) (by simp) ?_
                refine AllReady.cons rfl (fun K hK => ?_) (AllReady.cons rfl (fun K hK => ?_) AllReady.nil)
                · go_simp
                  refine hK _ _ ?_
                  clear hK K
                  refine wpAny_ready (rs := [15]) (by kernel_rfl) (by simp) ?_
                  refine AllReady.cons rfl (fun K hK => ?_) AllReady.nil
                  go_simp
                  refine hK _ _ ?_
                  clear hK K
                  refine wpAny_take (i := 16) (v := ?_) rfl (by kernel_rfl) (by kernel_rfl) (by kernel_rfl) (fun _ _ _ h => h) (Or.inl ⟨by kernel_rfl, by intro w; go_simp; try (with_reducible rfl)⟩) ?_
                  simp [Act.put]
                  refine wpAny_take (i := 17) (v := ?_) rfl (by kernel_rfl) (by kernel_rfl) (by kernel_rfl) (fun _ _ _ h => h) (Or.inl ⟨by kernel_rfl, by intro w; go_simp; try (with_reducible rfl)⟩) ?_
                  simp [Act.put]
                  refine wpAny_take (i := 18) (v := ?_) rfl (by kernel_rfl) (by kernel_rfl) (by kernel_rfl) (fun _ _ _ h => h) (Or.inl ⟨by kernel_rfl, by intro w; go_simp; try (with_reducible rfl)⟩) ?_
                  simp [Act.put]
                  refine wpAny_done (by kernel_rfl) ?_ _
                  go_wp2_with fail
                  go_meet
                  case rel => exact ⟨by rw [← HST.out]; unfold stepG; rw [← HL.out] at hg; rw [hg, HX.out, HYY.out, decide_eq_false hk0, decide_eq_true hlt2]; first | rfl | (simp; omega), hw1⟩
                · go_simp
                  refine hK _ _ ?_
                  clear hK K
                  refine wpAny_ready (rs := [13]) (by kernel_rfl) (by simp) ?_
                  refine AllReady.cons rfl (fun K hK => ?_) AllReady.nil
                  go_simp
                  refine hK _ _ ?_
                  clear hK K
                  refine wpAny_take (i := 16) (v := ?_) rfl (by kernel_rfl) (by kernel_rfl) (by kernel_rfl) (fun _ _ _ h => h) (Or.inl ⟨by kernel_rfl, by intro w; go_simp; try (with_reducible rfl)⟩) ?_
                  simp [Act.put]
                  refine wpAny_take (i := 17) (v := ?_) rfl (by kernel_rfl) (by kernel_rfl) (by kernel_rfl) (fun _ _ _ h => h) (Or.inl ⟨by kernel_rfl, by intro w; go_simp; try (with_reducible rfl)⟩) ?_
                  simp [Act.put]
                  refine wpAny_take (i := 18) (v := ?_) rfl (by kernel_rfl) (by kernel_rfl) (by kernel_rfl) (fun _ _ _ h => h) (Or.inl ⟨by kernel_rfl, by intro w; go_simp; try (with_reducible rfl)⟩) ?_
                  simp [Act.put]
                  refine wpAny_done (by kernel_rfl) ?_ _
                  go_wp2_with fail
                  go_meet
                  case rel => exact ⟨by rw [← HST.out]; unfold stepG; rw [← HL.out] at hg; rw [hg, HX.out, HYY.out, decide_eq_false hk0, decide_eq_true hlt2]; first | rfl | (simp; omega), hw1⟩
              · go_simp
                refine hK _ _ ?_
                clear hK K
                refine wpAny_ready (rs := [11]) (by kernel_rfl) (by simp) ?_
                refine AllReady.cons rfl (fun K hK => ?_) AllReady.nil
                go_simp
                refine hK _ _ ?_
                clear hK K
                refine wpAny_take (i := 12) (v := ?_) rfl (by kernel_rfl) (by kernel_rfl) (by kernel_rfl) (fun _ _ _ h => h) (Or.inl ⟨by kernel_rfl, by intro w; go_simp; try (with_reducible rfl)⟩) ?_
                simp [Act.put]
                refine wpAny_ready (rs := [13]) (by kernel_rfl) (by simp) ?_
                refine AllReady.cons rfl (fun K hK => ?_) AllReady.nil
                go_simp
                refine hK _ _ ?_
                clear hK K
                refine wpAny_take (i := 16) (v := ?_) rfl (by kernel_rfl) (by kernel_rfl) (by kernel_rfl) (fun _ _ _ h => h) (Or.inl ⟨by kernel_rfl, by intro w; go_simp; try (with_reducible rfl)⟩) ?_
                simp [Act.put]
                refine wpAny_take (i := 17) (v := ?_) rfl (by kernel_rfl) (by kernel_rfl) (by kernel_rfl) (fun _ _ _ h => h) (Or.inl ⟨by kernel_rfl, by intro w; go_simp; try (with_reducible rfl)⟩) ?_
                simp [Act.put]
                refine wpAny_take (i := 18) (v := ?_) rfl (by kernel_rfl) (by kernel_rfl) (by kernel_rfl) (fun _ _ _ h => h) (Or.inl ⟨by kernel_rfl, by intro w; go_simp; try (with_reducible rfl)⟩) ?_
                simp [Act.put]
                refine wpAny_done (by kernel_rfl) ?_ _
                go_wp2_with fail
                go_meet
                case rel => exact ⟨by rw [← HST.out]; unfold stepG; rw [← HL.out] at hg; rw [hg, HX.out, HYY.out, decide_eq_false hk0, decide_eq_true hlt2]; first | rfl | (simp; omega), hw1⟩
            · have i3 : X ≤ Y := by omega
              obtain ⟨v0, v1, v2, v3, v4, v5, v6, v7⟩ := gain_at cg
              refine wp_region_any (by kernel_rfl) ?_
              change wpAny _ _ _ _ _ _ _ (World.drew _)
              refine wpAny_take (i := 0) (v := ?_) rfl (by kernel_rfl) (by kernel_rfl) (by kernel_rfl) (fun _ _ _ h => h) (Or.inl ⟨by kernel_rfl, by intro w; go_simp; try (with_reducible rfl)⟩) ?_
              simp [Act.put]
              refine wpAny_ready (rs := [1]) (by kernel_rfl) (by simp) ?_
              refine AllReady.cons rfl (fun K hK => ?_) AllReady.nil
              go_simp
              refine hK _ _ ?_
              clear hK K
              refine wpAny_ready (rs := [2]) (by kernel_rfl) (by simp) ?_
              refine AllReady.cons rfl (fun K hK => ?_) AllReady.nil
              go_simp
              go_wp2_with (first | (go_at_call 38; refine (hG _).mono ?_; rintro e w6 ⟨rfl, hbn⟩; have hw1 := stepA hw0.drew hbn; clear hbn; obtain ⟨u0, u1, u2, u3, u4, u5, u6, u7⟩ := gain_at (cg.on hw1); have u8 := (hw1.cell (p := ⟨ba, _, none⟩) (World.block_lt_of_cell? _ _ hpr)).trans hpr) | (fail))
              refine wpAny_take (i := 3) (v := ?_) rfl (by kernel_rfl) (by kernel_rfl) (by kernel_rfl) (fun _ _ _ h => h) (Or.inl ⟨by kernel_rfl, by intro w; go_simp; try (with_reducible rfl)⟩) ?_
              simp [Act.put]
              refine wpAny_take (i := 4) (v := ?_) rfl (by kernel_rfl) (by kernel_rfl) (by kernel_rfl) (fun _ _ _ h => h) (Or.inl ⟨by kernel_rfl, by intro w; go_simp; try (with_reducible rfl)⟩) ?_
              simp [Act.put]
              refine wpAny_take (i := 5) (v := ?_) rfl (by kernel_rfl) (by kernel_rfl) (by kernel_rfl) (fun _ _ _ h => h) (Or.inl ⟨by kernel_rfl, by intro w; go_simp; try (with_reducible rfl)⟩) ?_
              simp [Act.put]
              refine wpAny_take (i := 6) (v := ?_) rfl (by kernel_rfl) (by kernel_rfl) (by kernel_rfl) (fun _ _ _ h => h) (Or.inl ⟨by kernel_rfl, by intro w; go_simp; try (with_reducible rfl)⟩) ?_
              simp [Act.put]
              refine wpAny_take (i := 7) (v := ?_) rfl (by kernel_rfl) (by kernel_rfl) (by kernel_rfl) (fun _ _ _ h => h) (Or.inl ⟨by kernel_rfl, by intro w; go_simp; try (with_reducible rfl)⟩) ?_
              simp [Act.put]
              refine wpAny_take (i := 8) (v := ?_) rfl (by kernel_rfl) (by kernel_rfl) (by kernel_rfl) (fun _ _ _ h => h) (Or.inl ⟨by kernel_rfl, by intro w; go_simp; try (with_reducible rfl)⟩) ?_
              simp [Act.put]
              refine wpAny_take (i := 9) (v := ?_) rfl (by kernel_rfl) (by kernel_rfl) (by kernel_rfl) (fun _ _ _ h => h) (Or.inl ⟨by kernel_rfl, by intro w; go_simp; try (with_reducible rfl)⟩) ?_
              simp [Act.put]
              refine wpAny_take (i := 10) (v := ?_) rfl (by kernel_rfl) (by kernel_rfl) (by kernel_rfl) (fun _ _ _ h => h) (Or.inl ⟨by kernel_rfl, by intro w; go_simp; try (with_reducible rfl)⟩) ?_
              simp [Act.put]
              refine wpAny_take (i := 14) (v := ?_) rfl (by kernel_rfl) (by kernel_rfl) (by kernel_rfl) (fun _ _ _ h => h) (Or.inl ⟨by kernel_rfl, by intro w; go_simp; try (with_reducible rfl)⟩) ?_
              simp [Act.put]
              refine wpAny_ready (rs := [11, 15]) (by kernel_rfl) (by simp) ?_
              refine AllReady.cons rfl (fun K hK => ?_) (AllReady.cons rfl (fun K hK => ?_) AllReady.nil)
              · go_simp
                refine hK _ _ ?_
                clear hK K
                refine wpAny_take (i := 12) (v := ?_) rfl (by kernel_rfl) (by kernel_rfl) (by kernel_rfl) (fun _ _ _ h => h) (Or.inl ⟨by kernel_rfl, by intro w; go_simp; try (with_reducible rfl)⟩) ?_
                simp [Act.put]
                refine wpAny_ready (rs := [13, 15]) (by kernel_rfl) (by simp) ?_
                refine AllReady.cons rfl (fun K hK => ?_) (AllReady.cons rfl (fun K hK => ?_) AllReady.nil)
                · go_simp
                  refine hK _ _ ?_
                  clear hK K
                  refine wpAny_ready (rs := [15]) (by kernel_rfl) (by simp) ?_
                  refine AllReady.cons rfl (fun K hK => ?_) AllReady.nil
                  go_simp
                  refine hK _ _ ?_
                  clear hK K
                  refine wpAny_take (i := 16) (v := ?_) rfl (by kernel_rfl) (by kernel_rfl) (by kernel_rfl) (fun _ _ _ h => h) (Or.inl ⟨by kernel_rfl, by intro w; go_simp; try (with_reducible rfl)⟩) ?_
                  simp [Act.put]
                  refine wpAny_take (i := 17) (v := ?_) rfl (by kernel_rfl) (by kernel_rfl) (by kernel_rfl) (fun _ _ _ h => h) (Or.inl ⟨by kernel_rfl, by intro w; go_simp; try (with_reducible rfl)⟩) ?_
                  simp [Act.put]
                  refine wpAny_take (i := 18) (v := ?_) rfl (by kernel_rfl) (by kernel_rfl) (by kernel_rfl) (fun _ _ _ h => h) (Or.inl ⟨by kernel_rfl, by intro w; go_simp; try (with_reducible rfl)⟩) ?_
                  simp [Act.put]
                  refine wpAny_done (by kernel_rfl) ?_ _
                  go_wp2_with fail
                  go_meet
                  case rel => exact ⟨by rw [← HST.out]; unfold stepG; rw [← HL.out] at hg; rw [hg, HX.out, HYY.out, decide_eq_false hk0, decide_eq_false (by omega : ¬ Y < X)]; first | rfl | (simp; omega), hw1⟩
                · go_simp
                  refine hK _ _ ?_
                  clear hK K
                  refine wpAny_ready (rs := [13]) (by kernel_rfl) (by simp) ?_
                  refine AllReady.cons rfl (fun K hK => ?_) AllReady.nil
                  go_simp
                  refine hK _ _ ?_
                  clear hK K
                  refine wpAny_take (i := 16) (v := ?_) rfl (by kernel_rfl) (by kernel_rfl) (by kernel_rfl) (fun _ _ _ h => h) (Or.inl ⟨by kernel_rfl, by intro w; go_simp; try (with_reducible rfl)⟩) ?_
                  simp [Act.put]
                  refine wpAny_take (i := 17) (v := ?_) rfl (by kernel_rfl) (by kernel_rfl) (by kernel_rfl) (fun _ _ _ h => h) (Or.inl ⟨by kernel_rfl, by intro w; go_simp; try (with_reducible rfl)⟩) ?_
                  simp [Act.put]
                  refine wpAny_take (i := 18) (v := ?_) rfl (by kernel_rfl) (by kernel_rfl) (by kernel_rfl) (fun _ _ _ h => h) (Or.inl ⟨by kernel_rfl, by intro w; go_simp; try (with_reducible rfl)⟩) ?_
                  simp [Act.put]
                  refine wpAny_done (by kernel_rfl) ?_ _
                  go_wp2_with fail
                  go_meet
                  case rel => exact ⟨by rw [← HST.out]; unfold stepG; rw [← HL.out] at hg; rw [hg, HX.out, HYY.out, decide_eq_false hk0, decide_eq_false (by omega : ¬ Y < X)]; first | rfl | (simp; omega), hw1⟩
              · go_simp
                refine hK _ _ ?_
                clear hK K
                refine wpAny_ready (rs := [11]) (by kernel_rfl) (by simp) ?_
                refine AllReady.cons rfl (fun K hK => ?_) AllReady.nil
                go_simp
                refine hK _ _ ?_
                clear hK K
                refine wpAny_take (i := 12) (v := ?_) rfl (by kernel_rfl) (by kernel_rfl) (by kernel_rfl) (fun _ _ _ h => h) (Or.inl ⟨by kernel_rfl, by intro w; go_simp; try (with_reducible rfl)⟩) ?_
                simp [Act.put]
                refine wpAny_ready (rs := [13]) (by kernel_rfl) (by simp) ?_
                refine AllReady.cons rfl (fun K hK => ?_) AllReady.nil
                go_simp
                refine hK _ _ ?_
                clear hK K
                refine wpAny_take (i := 16) (v := ?_) rfl (by kernel_rfl) (by kernel_rfl) (by kernel_rfl) (fun _ _ _ h => h) (Or.inl ⟨by kernel_rfl, by intro w; go_simp; try (with_reducible rfl)⟩) ?_
                simp [Act.put]
                refine wpAny_take (i := 17) (v := ?_) rfl (by kernel_rfl) (by kernel_rfl) (by kernel_rfl) (fun _ _ _ h => h) (Or.inl ⟨by kernel_rfl, by intro w; go_simp; try (with_reducible rfl)⟩) ?_
                simp [Act.put]
                refine wpAny_take (i := 18) (v := ?_) rfl (by kernel_rfl) (by kernel_rfl) (by kernel_rfl) (fun _ _ _ h => h) (Or.inl ⟨by kernel_rfl, by intro w; go_simp; try (with_reducible rfl)⟩) ?_
                simp [Act.put]
                refine wpAny_done (by kernel_rfl) ?_ _
                go_wp2_with fail
                go_meet
                case rel => exact ⟨by rw [← HST.out]; unfold stepG; rw [← HL.out] at hg; rw [hg, HX.out, HYY.out, decide_eq_false hk0, decide_eq_false (by omega : ¬ Y < X)]; first | rfl | (simp; omega), hw1⟩
      case rest =>
        obtain ⟨rfl, hbx⟩ := hcut
        have hB6 := stepA hB5 hbx
        have t0 := d0.on hbx
        have t1 := d1.on hbx
        have tg := cg.on hbx
        clear d0 d1 cg hB5 hbx hw0 HPR hG
        cases st with
        | false =>
          obtain ⟨rfl, rfl⟩ := HN.out (okG_no hlt0 HST.out)
          clear HY HN
          obtain ⟨s0, s1, s2, s3, s4, s5, s6⟩ := loop_at t0
          have f0 := t0.fz 0
          have f1 := t0.fz 1
          have f2 := t0.fz 2
          have f3 := t0.fz 3
          have f4 := t0.fz 4
          have f5 := t0.fz 5
          have f6 := t0.fz 6
          go_wp2
          exact ret_at rfl rfl (t0.set7 lp0) rfl ⟨rfl, below_seven hB6 (by omega) _ _ _ _ _ _ _⟩
        | true =>
          obtain ⟨v0, v1, v2, v3, v4, v5, v6, v7⟩ := gain_at tg
          by_cases hx : X ≤ t
          · obtain ⟨z0, z1, z2, z3, z4, z5, z6⟩ := loop_at t1
            have f0 := t1.fz 0
            have f1 := t1.fz 1
            have f2 := t1.fz 2
            have f3 := t1.fz 3
            have f4 := t1.fz 4
            have f5 := t1.fz 5
            have f6 := t1.fz 6
            go_wp2
            go_roundw
            case rel => exact ⟨k + 1, by omega, by go_num, by rw [H2.out, HX.out, if_pos hx], by unfold okG; rw [HOK.out, HST.out]; rfl, bx_seven t0 (by omega) _ _ _ _ _ _ _, by rw [H1.out, HX.out, if_pos hx, HL.out]; exact t1.set7 L, below_seven hB6 (by omega) _ _ _ _ _ _ _⟩
            case measure => simp [intOf]; omega
          · go_wp2
            go_roundw
            case rel => exact ⟨k + 1, by omega, by go_num, by rw [H2.out, HX.out, if_neg (by omega)], by unfold okG; rw [HOK.out, HST.out]; rfl, t0, by rw [H1.out, HX.out, if_neg (by omega)]; exact t1, hB6⟩
            case measure => simp [intOf]; omega
    · have hke : k = n := by omega
      subst hke
      obtain ⟨e1, e2⟩ := HY.out HOK.out
      rw [← e1] at c1
      rw [← e2]
      clear e1 e2 HY HN hA
      obtain ⟨z0, z1, z2, z3, z4, z5, z6⟩ := loop_at c1
      obtain ⟨s0, s1, s2, s3, s4, s5, s6⟩ := loop_at c0
      have f0 := c0.fz 0
      have f1 := c0.fz 1
      have f2 := c0.fz 2
      have f3 := c0.fz 3
      have f4 := c0.fz 4
      have f5 := c0.fz 5
      have f6 := c0.fz 6
      go_wp2
      exact ret_at rfl rfl (c0.set7 U) rfl ⟨rfl, below_seven hB (by omega) _ _ _ _ _ _ _⟩
theorem specAt (a : Option Addr) (n cap : Nat) (F : Nat → Int) (t : Int) (w : World) (hA : IL w a (n * 8) F) :
    Calls Try.prog 22 #[.slice a n cap, .int .i64 t] w fun e w' => e = .returned (.tuple #[lv (atL F n t), .bool (atB F n t)]) ∧ Below w.heap.size w w' := by
  unfold atL atB goodsB
  by_cases hn : n ≤ 60
  · rw [decide_eq_true hn, Bool.true_and]
    refine specAt_in a n cap F t w hn hA _ _ (fun e => ?_) (fun e => ?_)
    · rw [e, if_pos rfl, if_pos rfl]; exact ⟨rfl, rfl⟩
    · rw [e, if_neg (by decide), if_neg (by decide)]; exact ⟨rfl, rfl⟩
  · rw [decide_eq_false hn, Bool.false_and, if_neg (by decide), if_neg (by decide)]
    exact specAt_no a n cap t w hn
end Go.Proofs.Ythmjoeknkenfgab
