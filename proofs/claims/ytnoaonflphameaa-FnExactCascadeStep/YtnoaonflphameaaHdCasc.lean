/- CascadeStep, on both sides. -/
import Derived.Test.YtnoaonflphameaaHdStepA
import Derived.Test.YtnoaonflphameaaHdRunI
namespace Go.Proofs.Ytnoaonflphameaa
open Go.RowKit

def cascB (lo li : Lp) (ho hi : Hd) (want place speed : Int) : Bool := okS lo ho want place && okS li hi (stepH lo ho want place).out speed
def cascU (lo li : Lp) (ho hi : Hd) (want place speed : Int) : Hd := if cascB lo li ho hi want place speed then stepH lo ho want place else hd0
def cascV (lo li : Lp) (ho hi : Hd) (want place speed : Int) : Hd := if cascB lo li ho hi want place speed then stepH li hi (stepH lo ho want place).out speed else hd0
theorem ret_two {fn : Func} {t u v : Tmp} {R : Ending → World → Prop} {a : Act} {w : World} {b b2 : Nat} {h h2 : Hd} (e : fn.results = #[.cell t 36, .cell u 36, .tmp v]) (hp : a.tmps.getD t undef = .pointer (some ⟨b, 0, none⟩)) (c : Bx w b (hvs h)) (hp2 : a.tmps.getD u undef = .pointer (some ⟨b2, 0, none⟩)) (c2 : Bx w b2 (hvs h2)) (hd : a.defers = [])
    (hR : R (.returned (.tuple #[hv h, hv h2, a.tmps.getD v undef])) w) : bodyPost Try.prog fn R .ret a w := by
  refine bodyPost_ret ?_ hd hR
  obtain ⟨x0, x1, x2, x3⟩ := hold_at c
  obtain ⟨y0, y1, y2, y3⟩ := hold_at c2
  have hp' : a.tmps[t]?.getD undef = .pointer (some ⟨b, 0, none⟩) := by simpa using hp
  have hp2' : a.tmps[u]?.getD undef = .pointer (some ⟨b2, 0, none⟩) := by simpa using hp2
  simp [results, e, hp', hp2', asAddr, loadVar, go_sem, x0, x1, x2, x3, y0, y1, y2, y3]
abbrev cw (lo li : Lp) (ho hi : Hd) (w : World) : World := (((((w.alloc (lvo lo)).alloc (lvo li)).alloc (hvo ho)).alloc (hvo hi)).alloc (hvo hd0)).alloc (hvo hd0)
theorem boxes_c (lo li : Lp) (ho hi : Hd) (w : World) : Bx (cw lo li ho hi w) w.heap.size (lvs lo) ∧ Bx (cw lo li ho hi w) (w.heap.size + 1) (lvs li) ∧ Bx (cw lo li ho hi w) (w.heap.size + 1 + 1) (hvs ho) ∧ Bx (cw lo li ho hi w) (w.heap.size + 1 + 1 + 1) (hvs hi) ∧ Bx (cw lo li ho hi w) (w.heap.size + 1 + 1 + 1 + 1) (hvs hd0) ∧ Bx (cw lo li ho hi w) (w.heap.size + 1 + 1 + 1 + 1 + 1) (hvs hd0) ∧ Below w.heap.size w (cw lo li ho hi w) := by
  have z0 : Bx (w.alloc (lvo lo)) w.heap.size (lvs lo) := bx_new _ _ rfl
  have z1 : Bx ((w.alloc (lvo lo)).alloc (lvo li)) (w.heap.size + 1) (lvs li) := bx_new _ _ (by simp only [size_al])
  have z2 : Bx (((w.alloc (lvo lo)).alloc (lvo li)).alloc (hvo ho)) (w.heap.size + 1 + 1) (hvs ho) := bx_new _ _ (by simp only [size_al])
  have z3 : Bx ((((w.alloc (lvo lo)).alloc (lvo li)).alloc (hvo ho)).alloc (hvo hi)) (w.heap.size + 1 + 1 + 1) (hvs hi) := bx_new _ _ (by simp only [size_al])
  have z4 : Bx (((((w.alloc (lvo lo)).alloc (lvo li)).alloc (hvo ho)).alloc (hvo hi)).alloc (hvo hd0)) (w.heap.size + 1 + 1 + 1 + 1) (hvs hd0) := bx_new _ _ (by simp only [size_al])
  have z5 : Bx (cw lo li ho hi w) (w.heap.size + 1 + 1 + 1 + 1 + 1) (hvs hd0) := bx_new _ _ (by simp only [size_al])
  have hb : Below w.heap.size w (cw lo li ho hi w) := ((((((Below.refl _ _).alloc (Nat.le_refl _) _).alloc (by simp) _).alloc (by simp only [size_al]; omega) _).alloc (by simp only [size_al]; omega) _).alloc (by simp only [size_al]; omega) _).alloc (by simp only [size_al]; omega) _
  exact ⟨((((z0.alloc _).alloc _).alloc _).alloc _).alloc _, (((z1.alloc _).alloc _).alloc _).alloc _, ((z2.alloc _).alloc _).alloc _, (z3.alloc _).alloc _, z4.alloc _, z5, hb⟩

set_option maxHeartbeats 4000000 in
set_option maxRecDepth 20000 in
theorem implCasc_in (lo li : Lp) (ho hi : Hd) (want place speed : Int) (w : World) (U V : Hd) (B : Bool)
    (HY : Hid (cascB lo li ho hi want place speed = true → U = stepH lo ho want place ∧ V = stepH li hi (stepH lo ho want place).out speed ∧ B = true)) (HN : Hid (cascB lo li ho hi want place speed = false → U = hd0 ∧ V = hd0 ∧ B = false)) :
    Calls Try.prog 26 #[lv lo, lv li, hv ho, hv hi, .int .i64 want, .int .i64 place, .int .i64 speed] w fun e w' => e = .returned (.tuple #[hv U, hv V, .bool B]) ∧ Below w.heap.size w w' := by
  obtain ⟨z0, z1, z2, z3, z4, z5, hB0⟩ := boxes_c lo li ho hi w
  have h1 := fun w => implStep lo ho want place w
  have h2 := fun w => implStep li hi (stepH lo ho want place).out speed w
  unfold cascB at HY HN
  generalize stepH lo ho want place = R1 at h1 h2 HY HN
  generalize okS lo ho want place = Q1 at h1 HY HN
  generalize stepH li hi R1.out speed = R2 at h2 HY HN
  generalize okS li hi R1.out speed = Q2 at h2 HY HN
  go_enter Try.func26, Try.ntmps26
  obtain ⟨x0, x1, x2, x3, x4, x5, x6⟩ := loop_at z0
  obtain ⟨y0, y1, y2, y3⟩ := hold_at z2
  go_wp2_with fail
  refine (h1 _).mono ?_
  rintro e w1 ⟨rfl, hb⟩
  have u1 := (z1.on hb).alloc (hvo R1)
  have u3 := (z3.on hb).alloc (hvo R1)
  have U4 := (z4.on hb).alloc (hvo R1)
  have U5 := (z5.on hb).alloc (hvo R1)
  have ug := bx_new (b := w1.heap.size) (w := w1) (hvs R1) 36 rfl
  have hB1 : Below w.heap.size w (w1.alloc (hvo R1)) := (stepA hB0 hb).alloc (stepA hB0 hb).size _
  have hs1 : w.heap.size + 1 + 1 + 1 + 1 + 1 < w1.heap.size := (z5.on hb).lt
  clear x0 x1 x2 x3 x4 x5 x6 y0 y1 y2 y3 z0 z1 z2 z3 z4 z5 hB0 hb h1
  go_upto_region 2 with fail
  generalize w1.alloc (hvo R1) = w2 at u1 u3 U4 U5 ug hB1 ⊢
  generalize w1.heap.size = g1 at ug hs1 ⊢
  cases Q1
  · obtain ⟨rfl, rfl, rfl⟩ := HN.out rfl
    clear HN HY h2
    obtain ⟨r0, r1, r2, r3⟩ := hold_at U4
    obtain ⟨s0, s1, s2, s3⟩ := hold_at U5
    have f0 := U4.fz 0
    have f1 := U4.fz 1
    have f2 := U4.fz 2
    have f3 := U4.fz 3
    have k0 := U5.fz 0
    have k1 := U5.fz 1
    have k2 := U5.fz 2
    have k3 := U5.fz 3
    go_wp2
    exact ret_two rfl rfl (bx_four (U4.set4 hd0) (by omega) _ _ _ _) rfl ((bx_four U5 (by omega) _ _ _ _).set4 hd0) rfl ⟨rfl, below_four (below_four hB1 (by omega) _ _ _ _) (by omega) _ _ _ _⟩
  · obtain ⟨x0, x1, x2, x3, x4, x5, x6⟩ := loop_at u1
    obtain ⟨y0, y1, y2, y3⟩ := hold_at u3
    have p3 := ug.at 3 rfl
    go_wp2_with fail
    refine (h2 _).mono ?_
    rintro e w3 ⟨rfl, hb⟩
    have v4 := (U4.on hb).alloc (hvo R2)
    have v5 := (U5.on hb).alloc (hvo R2)
    have vg := (ug.on hb).alloc (hvo R2)
    have vh := bx_new (b := w3.heap.size) (w := w3) (hvs R2) 36 rfl
    have hB2 : Below w.heap.size w (w3.alloc (hvo R2)) := (stepA hB1 hb).alloc (stepA hB1 hb).size _
    have hs2 : g1 < w3.heap.size := (ug.on hb).lt
    clear x0 x1 x2 x3 x4 x5 x6 y0 y1 y2 y3 p3 u1 u3 U4 U5 ug hB1 hb h2
    go_upto_region 5 with fail
    generalize w3.alloc (hvo R2) = w4 at v4 v5 vg vh hB2 ⊢
    generalize w3.heap.size = g2 at vh hs2 ⊢
    have U4 := v4
    have U5 := v5
    clear v4 v5
    cases Q2
    · obtain ⟨rfl, rfl, rfl⟩ := HN.out rfl
      clear HN HY
      obtain ⟨r0, r1, r2, r3⟩ := hold_at U4
      obtain ⟨s0, s1, s2, s3⟩ := hold_at U5
      have f0 := U4.fz 0
      have f1 := U4.fz 1
      have f2 := U4.fz 2
      have f3 := U4.fz 3
      have k0 := U5.fz 0
      have k1 := U5.fz 1
      have k2 := U5.fz 2
      have k3 := U5.fz 3
      go_wp2
      exact ret_two rfl rfl (bx_four (U4.set4 hd0) (by omega) _ _ _ _) rfl ((bx_four U5 (by omega) _ _ _ _).set4 hd0) rfl ⟨rfl, below_four (below_four hB2 (by omega) _ _ _ _) (by omega) _ _ _ _⟩
    · obtain ⟨rfl, rfl, rfl⟩ := HY.out rfl
      clear HN HY
      obtain ⟨m0, m1, m2, m3⟩ := hold_at vg
      obtain ⟨n0, n1, n2, n3⟩ := hold_at vh
      obtain ⟨r0, r1, r2, r3⟩ := hold_at U4
      obtain ⟨s0, s1, s2, s3⟩ := hold_at U5
      have f0 := U4.fz 0
      have f1 := U4.fz 1
      have f2 := U4.fz 2
      have f3 := U4.fz 3
      have k0 := U5.fz 0
      have k1 := U5.fz 1
      have k2 := U5.fz 2
      have k3 := U5.fz 3
      go_wp2_with fail
      go_region
      all_goals
        go_wp2
        exact ret_two rfl rfl ((bx_four (U4.set4 U) (by omega) _ _ _ _).on (Below.refl _ _).drew) rfl (((bx_four U5 (by omega) _ _ _ _).set4 V).on (Below.refl _ _).drew) rfl ⟨rfl, (below_four (below_four hB2 (by omega) _ _ _ _) (by omega) _ _ _ _).drew⟩
theorem implCasc (lo li : Lp) (ho hi : Hd) (want place speed : Int) (w : World) :
    Calls Try.prog 26 #[lv lo, lv li, hv ho, hv hi, .int .i64 want, .int .i64 place, .int .i64 speed] w fun e w' => e = .returned (.tuple #[hv (cascU lo li ho hi want place speed), hv (cascV lo li ho hi want place speed), .bool (cascB lo li ho hi want place speed)]) ∧ Below w.heap.size w w' := by
  refine implCasc_in lo li ho hi want place speed w _ _ _ (fun e => ?_) (fun e => ?_)
  · unfold cascU cascV; rw [e, if_pos rfl, if_pos rfl]; exact ⟨rfl, rfl, rfl⟩
  · unfold cascU cascV; rw [e, if_neg (by decide), if_neg (by decide)]; exact ⟨rfl, rfl, rfl⟩

set_option maxHeartbeats 4000000 in
set_option maxRecDepth 20000 in
theorem specCasc_in (lo li : Lp) (ho hi : Hd) (want place speed : Int) (w : World) (U V : Hd) (B : Bool)
    (HY : Hid (cascB lo li ho hi want place speed = true → U = stepH lo ho want place ∧ V = stepH li hi (stepH lo ho want place).out speed ∧ B = true)) (HN : Hid (cascB lo li ho hi want place speed = false → U = hd0 ∧ V = hd0 ∧ B = false)) :
    Calls Try.prog 23 #[lv lo, lv li, hv ho, hv hi, .int .i64 want, .int .i64 place, .int .i64 speed] w fun e w' => e = .returned (.tuple #[hv U, hv V, .bool B]) ∧ Below w.heap.size w w' := by
  obtain ⟨z0, z1, z2, z3, z4, z5, hB0⟩ := boxes_c lo li ho hi w
  have h1 := fun w => specStep lo ho want place w
  have h2 := fun w => specStep li hi (stepH lo ho want place).out speed w
  unfold cascB at HY HN
  generalize stepH lo ho want place = R1 at h1 h2 HY HN
  generalize okS lo ho want place = Q1 at h1 HY HN
  generalize stepH li hi R1.out speed = R2 at h2 HY HN
  generalize okS li hi R1.out speed = Q2 at h2 HY HN
  go_enter Try.func23, Try.ntmps23
  obtain ⟨x0, x1, x2, x3, x4, x5, x6⟩ := loop_at z0
  obtain ⟨y0, y1, y2, y3⟩ := hold_at z2
  go_wp2_with fail
  refine (h1 _).mono ?_
  rintro e w1 ⟨rfl, hb⟩
  have u1 := (z1.on hb).alloc (hvo R1)
  have u3 := (z3.on hb).alloc (hvo R1)
  have U4 := (z4.on hb).alloc (hvo R1)
  have U5 := (z5.on hb).alloc (hvo R1)
  have ug := bx_new (b := w1.heap.size) (w := w1) (hvs R1) 36 rfl
  have hB1 : Below w.heap.size w (w1.alloc (hvo R1)) := (stepA hB0 hb).alloc (stepA hB0 hb).size _
  have hs1 : w.heap.size + 1 + 1 + 1 + 1 + 1 < w1.heap.size := (z5.on hb).lt
  clear x0 x1 x2 x3 x4 x5 x6 y0 y1 y2 y3 z0 z1 z2 z3 z4 z5 hB0 hb h1
  go_upto_region 2 with fail
  generalize w1.alloc (hvo R1) = w2 at u1 u3 U4 U5 ug hB1 ⊢
  generalize w1.heap.size = g1 at ug hs1 ⊢
  cases Q1
  · obtain ⟨rfl, rfl, rfl⟩ := HN.out rfl
    clear HN HY h2
    obtain ⟨r0, r1, r2, r3⟩ := hold_at U4
    obtain ⟨s0, s1, s2, s3⟩ := hold_at U5
    have f0 := U4.fz 0
    have f1 := U4.fz 1
    have f2 := U4.fz 2
    have f3 := U4.fz 3
    have k0 := U5.fz 0
    have k1 := U5.fz 1
    have k2 := U5.fz 2
    have k3 := U5.fz 3
    go_wp2
    exact ret_two rfl rfl (bx_four (U4.set4 hd0) (by omega) _ _ _ _) rfl ((bx_four U5 (by omega) _ _ _ _).set4 hd0) rfl ⟨rfl, below_four (below_four hB1 (by omega) _ _ _ _) (by omega) _ _ _ _⟩
  · obtain ⟨x0, x1, x2, x3, x4, x5, x6⟩ := loop_at u1
    obtain ⟨y0, y1, y2, y3⟩ := hold_at u3
    have p3 := ug.at 3 rfl
    go_wp2_with fail
    refine (h2 _).mono ?_
    rintro e w3 ⟨rfl, hb⟩
    have v4 := (U4.on hb).alloc (hvo R2)
    have v5 := (U5.on hb).alloc (hvo R2)
    have vg := (ug.on hb).alloc (hvo R2)
    have vh := bx_new (b := w3.heap.size) (w := w3) (hvs R2) 36 rfl
    have hB2 : Below w.heap.size w (w3.alloc (hvo R2)) := (stepA hB1 hb).alloc (stepA hB1 hb).size _
    have hs2 : g1 < w3.heap.size := (ug.on hb).lt
    clear x0 x1 x2 x3 x4 x5 x6 y0 y1 y2 y3 p3 u1 u3 U4 U5 ug hB1 hb h2
    go_upto_region 5 with fail
    generalize w3.alloc (hvo R2) = w4 at v4 v5 vg vh hB2 ⊢
    generalize w3.heap.size = g2 at vh hs2 ⊢
    have U4 := v4
    have U5 := v5
    clear v4 v5
    cases Q2
    · obtain ⟨rfl, rfl, rfl⟩ := HN.out rfl
      clear HN HY
      obtain ⟨r0, r1, r2, r3⟩ := hold_at U4
      obtain ⟨s0, s1, s2, s3⟩ := hold_at U5
      have f0 := U4.fz 0
      have f1 := U4.fz 1
      have f2 := U4.fz 2
      have f3 := U4.fz 3
      have k0 := U5.fz 0
      have k1 := U5.fz 1
      have k2 := U5.fz 2
      have k3 := U5.fz 3
      go_wp2
      exact ret_two rfl rfl (bx_four (U4.set4 hd0) (by omega) _ _ _ _) rfl ((bx_four U5 (by omega) _ _ _ _).set4 hd0) rfl ⟨rfl, below_four (below_four hB2 (by omega) _ _ _ _) (by omega) _ _ _ _⟩
    · obtain ⟨rfl, rfl, rfl⟩ := HY.out rfl
      clear HN HY
      obtain ⟨m0, m1, m2, m3⟩ := hold_at vg
      obtain ⟨n0, n1, n2, n3⟩ := hold_at vh
      obtain ⟨r0, r1, r2, r3⟩ := hold_at U4
      obtain ⟨s0, s1, s2, s3⟩ := hold_at U5
      have f0 := U4.fz 0
      have f1 := U4.fz 1
      have f2 := U4.fz 2
      have f3 := U4.fz 3
      have k0 := U5.fz 0
      have k1 := U5.fz 1
      have k2 := U5.fz 2
      have k3 := U5.fz 3
      go_wp2_with fail
      go_region
      all_goals
        go_wp2
        exact ret_two rfl rfl ((bx_four (U4.set4 U) (by omega) _ _ _ _).on (Below.refl _ _).drew) rfl (((bx_four U5 (by omega) _ _ _ _).set4 V).on (Below.refl _ _).drew) rfl ⟨rfl, (below_four (below_four hB2 (by omega) _ _ _ _) (by omega) _ _ _ _).drew⟩
theorem specCasc (lo li : Lp) (ho hi : Hd) (want place speed : Int) (w : World) :
    Calls Try.prog 23 #[lv lo, lv li, hv ho, hv hi, .int .i64 want, .int .i64 place, .int .i64 speed] w fun e w' => e = .returned (.tuple #[hv (cascU lo li ho hi want place speed), hv (cascV lo li ho hi want place speed), .bool (cascB lo li ho hi want place speed)]) ∧ Below w.heap.size w w' := by
  refine specCasc_in lo li ho hi want place speed w _ _ _ (fun e => ?_) (fun e => ?_)
  · unfold cascU cascV; rw [e, if_pos rfl, if_pos rfl]; exact ⟨rfl, rfl, rfl⟩
  · unfold cascU cascV; rw [e, if_neg (by decide), if_neg (by decide)]; exact ⟨rfl, rfl, rfl⟩

end Go.Proofs.Ytnoaonflphameaa
