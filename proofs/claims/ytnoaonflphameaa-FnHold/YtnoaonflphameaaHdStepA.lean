/- A step of a hold, on both sides, whatever comes in. -/
import Derived.Test.YtnoaonflphameaaHdStepS
namespace Go.Proofs.Ytnoaonflphameaa
open Go.RowKit

set_option maxHeartbeats 1000000 in
set_option maxRecDepth 20000 in
theorem implStep_no0 (l : Lp) (h : Hd) (want seen : Int) (w : World) (g : goodH l h = false) :
    Calls Try.prog 15 #[lv l, hv h, .int .i64 want, .int .i64 seen] w fun e w' => e = .returned (ans hd0 false) ∧ Below w.heap.size w w' := by
  obtain ⟨z0, z1, z2, hB0⟩ := boxes_lha l h w
  have hG := fun w => implGoodH l h w
  rw [g] at hG
  go_enter Try.func15, Try.ntmps15
  go_wp2_with fail
  refine (hG _).mono ?_
  rintro e w1 ⟨rfl, hb⟩
  have m2 := z2.on hb
  have hB1 := stepA hB0 hb
  clear hb z0 z1 z2 hB0 hG
  obtain ⟨r0, r1, r2, r3⟩ := hold_at m2
  have s0 := m2.fz 0
  have s1 := m2.fz 1
  have s2 := m2.fz 2
  have s3 := m2.fz 3
  go_wp2
  exact ret_hold rfl rfl (m2.set4 hd0) rfl ⟨rfl, below_four hB1 (by omega) _ _ _ _⟩
set_option maxHeartbeats 1000000 in
set_option maxRecDepth 20000 in
theorem implStep_no1 (l : Lp) (h : Hd) (want seen : Int) (w : World) (g : goodH l h = true) (g1 : inB want 1000000 = false) :
    Calls Try.prog 15 #[lv l, hv h, .int .i64 want, .int .i64 seen] w fun e w' => e = .returned (ans hd0 false) ∧ Below w.heap.size w w' := by
  obtain ⟨z0, z1, z2, hB0⟩ := boxes_lha l h w
  have hG := fun w => implGoodH l h w
  rw [g] at hG
  go_enter Try.func15, Try.ntmps15
  go_wp2_with fail
  refine (hG _).mono ?_
  rintro e w1 ⟨rfl, hb⟩
  have m2 := z2.on hb
  have hB1 := stepA hB0 hb
  clear hb z0 z1 z2 hB0 hG
  obtain ⟨r0, r1, r2, r3⟩ := hold_at m2
  have s0 := m2.fz 0
  have s1 := m2.fz 1
  have s2 := m2.fz 2
  have s3 := m2.fz 3
  go_wp2_with fail
  refine (reach_any want _).mono ?_
  rintro e w5 ⟨rfl, hw'⟩
  subst hw'
  go_wp2
  exact ret_hold rfl rfl (m2.set4 hd0) rfl ⟨rfl, below_four hB1 (by omega) _ _ _ _⟩
set_option maxHeartbeats 1000000 in
set_option maxRecDepth 20000 in
theorem implStep_no2 (l : Lp) (h : Hd) (want seen : Int) (w : World) (g : goodH l h = true) (g1 : inB want 1000000 = true) (g2 : inB seen 1000000 = false) :
    Calls Try.prog 15 #[lv l, hv h, .int .i64 want, .int .i64 seen] w fun e w' => e = .returned (ans hd0 false) ∧ Below w.heap.size w w' := by
  obtain ⟨z0, z1, z2, hB0⟩ := boxes_lha l h w
  have hG := fun w => implGoodH l h w
  rw [g] at hG
  go_enter Try.func15, Try.ntmps15
  go_wp2_with fail
  refine (hG _).mono ?_
  rintro e w1 ⟨rfl, hb⟩
  have m2 := z2.on hb
  have hB1 := stepA hB0 hb
  clear hb z0 z1 z2 hB0 hG
  obtain ⟨r0, r1, r2, r3⟩ := hold_at m2
  have s0 := m2.fz 0
  have s1 := m2.fz 1
  have s2 := m2.fz 2
  have s3 := m2.fz 3
  go_wp2_with fail
  refine (reach_any want _).mono ?_
  rintro e w5 ⟨rfl, hw'⟩
  subst hw'
  go_wp2_with fail
  refine (reach_any seen _).mono ?_
  rintro e w6 ⟨rfl, hw'⟩
  subst hw'
  go_wp2
  exact ret_hold rfl rfl (m2.set4 hd0) rfl ⟨rfl, below_four hB1 (by omega) _ _ _ _⟩
theorem implStep (l : Lp) (h : Hd) (want seen : Int) (w : World) :
    Calls Try.prog 15 #[lv l, hv h, .int .i64 want, .int .i64 seen] w fun e w' => e = .returned (ans (stepH l h want seen) (okS l h want seen)) ∧ Below w.heap.size w w' := by
  cases g : okS l h want seen
  · unfold stepH
    rw [g, if_neg (by decide)]
    unfold okS at g
    cases g0 : goodH l h
    · exact implStep_no0 l h want seen w g0
    · cases g1 : inB want 1000000
      · exact implStep_no1 l h want seen w g0 g1
      · refine implStep_no2 l h want seen w g0 g1 ?_
        rw [g0, g1] at g
        simpa using g
  · unfold stepH
    rw [g, if_pos rfl]
    exact implStep_ok l h want seen w g

set_option maxHeartbeats 1000000 in
set_option maxRecDepth 20000 in
theorem specStep_no0 (l : Lp) (h : Hd) (want seen : Int) (w : World) (g : goodH l h = false) :
    Calls Try.prog 44 #[lv l, hv h, .int .i64 want, .int .i64 seen] w fun e w' => e = .returned (ans hd0 false) ∧ Below w.heap.size w w' := by
  obtain ⟨z0, z1, z2, hB0⟩ := boxes_lha l h w
  have hG := fun w => specGoodH l h w
  rw [g] at hG
  go_enter Try.func44, Try.ntmps44
  go_wp2_with fail
  refine (hG _).mono ?_
  rintro e w1 ⟨rfl, hb⟩
  have m2 := z2.on hb
  have hB1 := stepA hB0 hb
  clear hb z0 z1 z2 hB0 hG
  obtain ⟨r0, r1, r2, r3⟩ := hold_at m2
  have s0 := m2.fz 0
  have s1 := m2.fz 1
  have s2 := m2.fz 2
  have s3 := m2.fz 3
  go_wp2
  exact ret_hold rfl rfl (m2.set4 hd0) rfl ⟨rfl, below_four hB1 (by omega) _ _ _ _⟩
set_option maxHeartbeats 1000000 in
set_option maxRecDepth 20000 in
theorem specStep_no1 (l : Lp) (h : Hd) (want seen : Int) (w : World) (g : goodH l h = true) (g1 : inB want 1000000 = false) :
    Calls Try.prog 44 #[lv l, hv h, .int .i64 want, .int .i64 seen] w fun e w' => e = .returned (ans hd0 false) ∧ Below w.heap.size w w' := by
  obtain ⟨z0, z1, z2, hB0⟩ := boxes_lha l h w
  have hG := fun w => specGoodH l h w
  rw [g] at hG
  go_enter Try.func44, Try.ntmps44
  go_wp2_with fail
  refine (hG _).mono ?_
  rintro e w1 ⟨rfl, hb⟩
  have m2 := z2.on hb
  have hB1 := stepA hB0 hb
  clear hb z0 z1 z2 hB0 hG
  obtain ⟨r0, r1, r2, r3⟩ := hold_at m2
  have s0 := m2.fz 0
  have s1 := m2.fz 1
  have s2 := m2.fz 2
  have s3 := m2.fz 3
  go_wp2_with fail
  refine (value_any want _).mono ?_
  rintro e w5 ⟨rfl, hw'⟩
  subst hw'
  go_wp2
  exact ret_hold rfl rfl (m2.set4 hd0) rfl ⟨rfl, below_four hB1 (by omega) _ _ _ _⟩
set_option maxHeartbeats 1000000 in
set_option maxRecDepth 20000 in
theorem specStep_no2 (l : Lp) (h : Hd) (want seen : Int) (w : World) (g : goodH l h = true) (g1 : inB want 1000000 = true) (g2 : inB seen 1000000 = false) :
    Calls Try.prog 44 #[lv l, hv h, .int .i64 want, .int .i64 seen] w fun e w' => e = .returned (ans hd0 false) ∧ Below w.heap.size w w' := by
  obtain ⟨z0, z1, z2, hB0⟩ := boxes_lha l h w
  have hG := fun w => specGoodH l h w
  rw [g] at hG
  go_enter Try.func44, Try.ntmps44
  go_wp2_with fail
  refine (hG _).mono ?_
  rintro e w1 ⟨rfl, hb⟩
  have m2 := z2.on hb
  have hB1 := stepA hB0 hb
  clear hb z0 z1 z2 hB0 hG
  obtain ⟨r0, r1, r2, r3⟩ := hold_at m2
  have s0 := m2.fz 0
  have s1 := m2.fz 1
  have s2 := m2.fz 2
  have s3 := m2.fz 3
  go_wp2_with fail
  refine (value_any want _).mono ?_
  rintro e w5 ⟨rfl, hw'⟩
  subst hw'
  go_wp2_with fail
  refine (value_any seen _).mono ?_
  rintro e w6 ⟨rfl, hw'⟩
  subst hw'
  go_wp2
  exact ret_hold rfl rfl (m2.set4 hd0) rfl ⟨rfl, below_four hB1 (by omega) _ _ _ _⟩
theorem specStep (l : Lp) (h : Hd) (want seen : Int) (w : World) :
    Calls Try.prog 44 #[lv l, hv h, .int .i64 want, .int .i64 seen] w fun e w' => e = .returned (ans (stepH l h want seen) (okS l h want seen)) ∧ Below w.heap.size w w' := by
  cases g : okS l h want seen
  · unfold stepH
    rw [g, if_neg (by decide)]
    unfold okS at g
    cases g0 : goodH l h
    · exact specStep_no0 l h want seen w g0
    · cases g1 : inB want 1000000
      · exact specStep_no1 l h want seen w g0 g1
      · refine specStep_no2 l h want seen w g0 g1 ?_
        rw [g0, g1] at g
        simpa using g
  · unfold stepH
    rw [g, if_pos rfl]
    exact specStep_ok l h want seen w g

end Go.Proofs.Ytnoaonflphameaa
