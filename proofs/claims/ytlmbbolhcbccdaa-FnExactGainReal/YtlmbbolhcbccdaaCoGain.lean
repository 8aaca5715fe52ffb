/- impl.GainReal, spec.GainReal, the law FnExactGainReal. -/
import Derived.Test.YtlmbbolhcbccdaaCoRoundI
namespace Go.Proofs.Ytlmbbolhcbccdaa
open Go.RowKit

def gainOk (a b r p : Nat) : Bool := askB a b 4607182418800017408 r && goodB p && gnOk a b r p
def gainV (a b r p : Nat) : Nat := if askB a b 4607182418800017408 r && goodB p then gnV a b r p else 0
theorem gainV_lt (a b r p : Nat) : gainV a b r p < 18446744073709551616 := by
  unfold gainV; split
  · exact gnV_lt a b r p
  · decide

set_option maxHeartbeats 2000000 in
theorem gainS_any (a b r p : Nat) (w : World) (ha : a < 18446744073709551616) (hb : b < 18446744073709551616) (hr : r < 18446744073709551616) (hp : p < 18446744073709551616) :
    Calls Try.prog 14 #[.float .f64 a, .float .f64 b, .float .f64 r, .float .f64 p] w fun e w' => e = .returned (.tuple #[.float .f64 (gainV a b r p), .bool (gainOk a b r p)]) ∧ ∃ n, w' = w.drewN n := by
  have ci := fun w => askS_any a b 4607182418800017408 r w ha hb (by decide) hr
  have cg := fun w => specGood_any p w hp
  unfold gainV gainOk
  generalize askB a b 4607182418800017408 r = ask at *
  cases ask
  · go_enter Try.func14, Try.ntmps14
    go_wp2_with (first | (go_at_call 25; with_reducible refine (ci _).mono ?_; rintro e w' ⟨rfl, hw'⟩; have hs := hw'.symm; clear hw'; subst hs) | (go_at_call 32; with_reducible refine (cg _).mono ?_; rintro e w' ⟨rfl, hw'⟩; have hs := hw'.symm; clear hw'; subst hs))
    go_ret2
    exact ⟨rfl, 0, rfl⟩
  generalize goodB p = gp at *
  cases gp
  · go_enter Try.func14, Try.ntmps14
    go_wp2_with (first | (go_at_call 25; with_reducible refine (ci _).mono ?_; rintro e w' ⟨rfl, hw'⟩; have hs := hw'.symm; clear hw'; subst hs) | (go_at_call 32; with_reducible refine (cg _).mono ?_; rintro e w' ⟨rfl, hw'⟩; have hs := hw'.symm; clear hw'; subst hs))
    go_ret2
    exact ⟨rfl, 0, rfl⟩
  simp only [Bool.and_self, if_true, Bool.true_and]
  have hra := rep_of ha
  have hrb := rep_of hb
  have hrr := rep_of hr
  have hrp := rep_of hp
  clear ha hb hr hp
  obtain ⟨v1, w1, k1, r1, m1⟩ := run_rep (P := Try.prog) .mul (by simp) hrb hrb 23 w
  obtain ⟨v2, w2, k2, r2, m2⟩ := run_rep (P := Try.prog) .mul (by simp) r1 hrp 23 w1
  obtain ⟨v3, w3, k3, r3, m3⟩ := run_rep (P := Try.prog) .add (by simp) hrr r2 23 w2
  obtain ⟨v4, w4, k4, r4, m4⟩ := run_rep (P := Try.prog) .mul (by simp) hra hrb 23 w3
  obtain ⟨v5, w5, k5, r5, m5⟩ := run_rep (P := Try.prog) .mul (by simp) r4 hrp 23 w4
  obtain ⟨v6, w6, k6, r6, m6⟩ := run_rep (P := Try.prog) .quo (by simp) r5 r3 23 w5
  clear hra hrb hrr hrp r1 r2 r4
  have M5 := more_drew (more_drew (more_drew (more_drew m1 m2) m3) m4) m5
  have M6 := more_drew M5 m6
  clear m1 m2 m3 m4 m5 m6
  have q5 : Rep (nO a b p) v5 := r5
  have q3 : Rep (dO b r p) v3 := r3
  have q6 : Rep (yO a b r p) v6 := r6
  clear r3 r5 r6
  have c3 := fun w => l2Finite_any v3 w q3.1
  have c5 := fun w => l2Finite_any v5 w q5.1
  have c6 := fun w => l2Told_any v6 w q6.1
  rw [fin_rep q3] at c3
  rw [fin_rep q5] at c5
  rw [(told_rep q6).1, (told_rep q6).2] at c6
  cases f3 : toldOk (dO b r p) with
  | false =>
    rw [(gain_none f3).1, (gain_none f3).2]
    rw [f3] at c3
    cases hz : (FloatKind.f64.format.order v3 0 == some .eq)
    · clear q3 q5 q6
      go_enter Try.func14, Try.ntmps14
      go_wp2_with (first | (go_at_call 25; with_reducible refine (ci _).mono ?_; rintro e w' ⟨rfl, hw'⟩; have hs := hw'.symm; clear hw'; subst hs) | (go_at_call 32; with_reducible refine (cg _).mono ?_; rintro e w' ⟨rfl, hw'⟩; have hs := hw'.symm; clear hw'; subst hs) | (go_at_call 33; with_reducible refine (c3 _).mono ?_; rintro e w' ⟨rfl, hw'⟩; have hs := hw'.symm; clear hw'; subst hs) | (go_at_call 33; with_reducible refine (c5 _).mono ?_; rintro e w' ⟨rfl, hw'⟩; have hs := hw'.symm; clear hw'; subst hs) | (go_at_call 34; with_reducible refine (c6 _).mono ?_; rintro e w' ⟨rfl, hw'⟩; have hs := hw'.symm; clear hw'; subst hs))
      go_ret2
      exact ⟨rfl, M5⟩
    · clear q3 q5 q6
      go_enter Try.func14, Try.ntmps14
      go_wp2_with (first | (go_at_call 25; with_reducible refine (ci _).mono ?_; rintro e w' ⟨rfl, hw'⟩; have hs := hw'.symm; clear hw'; subst hs) | (go_at_call 32; with_reducible refine (cg _).mono ?_; rintro e w' ⟨rfl, hw'⟩; have hs := hw'.symm; clear hw'; subst hs) | (go_at_call 33; with_reducible refine (c3 _).mono ?_; rintro e w' ⟨rfl, hw'⟩; have hs := hw'.symm; clear hw'; subst hs) | (go_at_call 33; with_reducible refine (c5 _).mono ?_; rintro e w' ⟨rfl, hw'⟩; have hs := hw'.symm; clear hw'; subst hs) | (go_at_call 34; with_reducible refine (c6 _).mono ?_; rintro e w' ⟨rfl, hw'⟩; have hs := hw'.symm; clear hw'; subst hs))
      go_ret2
      exact ⟨rfl, M5⟩
  | true =>
    rw [f3] at c3
    have hz := zero_rep q3 f3
    have ez : dOk b r p = !noDo (dO b r p) := rfl
    cases f6 : noDo (dO b r p) with
    | true =>
      have e : gnOk a b r p = false := by unfold gnOk; rw [ez, f6]; rfl
      have e2 : gnV a b r p = 0 := by unfold gnV; rw [e]; rfl
      rw [e, e2]; rw [f6] at hz
      clear e e2 ez f6 q3 q5 q6
      go_enter Try.func14, Try.ntmps14
      go_wp2_with (first | (go_at_call 25; with_reducible refine (ci _).mono ?_; rintro e w' ⟨rfl, hw'⟩; have hs := hw'.symm; clear hw'; subst hs) | (go_at_call 32; with_reducible refine (cg _).mono ?_; rintro e w' ⟨rfl, hw'⟩; have hs := hw'.symm; clear hw'; subst hs) | (go_at_call 33; with_reducible refine (c3 _).mono ?_; rintro e w' ⟨rfl, hw'⟩; have hs := hw'.symm; clear hw'; subst hs) | (go_at_call 33; with_reducible refine (c5 _).mono ?_; rintro e w' ⟨rfl, hw'⟩; have hs := hw'.symm; clear hw'; subst hs) | (go_at_call 34; with_reducible refine (c6 _).mono ?_; rintro e w' ⟨rfl, hw'⟩; have hs := hw'.symm; clear hw'; subst hs))
      go_ret2
      exact ⟨rfl, M5⟩
    | false =>
      rw [f6] at hz ez
      cases f5 : toldOk (nO a b p) with
      | false =>
        have e : gnOk a b r p = false := by unfold gnOk; rw [f5]; simp
        have e2 : gnV a b r p = 0 := by unfold gnV; rw [e]; rfl
        rw [e, e2]; rw [f5] at c5
        clear e e2 ez f6 f5 q3 q5 q6
        go_enter Try.func14, Try.ntmps14
        go_wp2_with (first | (go_at_call 25; with_reducible refine (ci _).mono ?_; rintro e w' ⟨rfl, hw'⟩; have hs := hw'.symm; clear hw'; subst hs) | (go_at_call 32; with_reducible refine (cg _).mono ?_; rintro e w' ⟨rfl, hw'⟩; have hs := hw'.symm; clear hw'; subst hs) | (go_at_call 33; with_reducible refine (c3 _).mono ?_; rintro e w' ⟨rfl, hw'⟩; have hs := hw'.symm; clear hw'; subst hs) | (go_at_call 33; with_reducible refine (c5 _).mono ?_; rintro e w' ⟨rfl, hw'⟩; have hs := hw'.symm; clear hw'; subst hs) | (go_at_call 34; with_reducible refine (c6 _).mono ?_; rintro e w' ⟨rfl, hw'⟩; have hs := hw'.symm; clear hw'; subst hs))
        go_ret2
        exact ⟨rfl, M5⟩
      | true =>
        rw [f5] at c5
        have e : gnOk a b r p = toldOk (yO a b r p) := by unfold gnOk; rw [ez, f5]; rfl
        have e2 : gnV a b r p = told (yO a b r p) := by
          unfold gnV; rw [e]
          cases h : toldOk (yO a b r p) with
          | true => rfl
          | false => exact (told_zero h).symm
        rw [e, e2]
        clear e e2 ez f6 f5 q3 q5 q6
        go_enter Try.func14, Try.ntmps14
        go_wp2_with (first | (go_at_call 25; with_reducible refine (ci _).mono ?_; rintro e w' ⟨rfl, hw'⟩; have hs := hw'.symm; clear hw'; subst hs) | (go_at_call 32; with_reducible refine (cg _).mono ?_; rintro e w' ⟨rfl, hw'⟩; have hs := hw'.symm; clear hw'; subst hs) | (go_at_call 33; with_reducible refine (c3 _).mono ?_; rintro e w' ⟨rfl, hw'⟩; have hs := hw'.symm; clear hw'; subst hs) | (go_at_call 33; with_reducible refine (c5 _).mono ?_; rintro e w' ⟨rfl, hw'⟩; have hs := hw'.symm; clear hw'; subst hs) | (go_at_call 34; with_reducible refine (c6 _).mono ?_; rintro e w' ⟨rfl, hw'⟩; have hs := hw'.symm; clear hw'; subst hs))
        go_ret2
        exact ⟨rfl, M6⟩

set_option maxHeartbeats 2000000 in
theorem gainI_any (a b r p : Nat) (w : World) (ha : a < 18446744073709551616) (hb : b < 18446744073709551616) (hr : r < 18446744073709551616) (hp : p < 18446744073709551616) :
    Calls Try.prog 15 #[.float .f64 a, .float .f64 b, .float .f64 r, .float .f64 p] w fun e w' => e = .returned (.tuple #[.float .f64 (gainV a b r p), .bool (gainOk a b r p)]) ∧ Below w.heap.size w w' := by
  have ci := fun w => askI_any a b 4607182418800017408 r w ha hb (by decide) hr
  have cg := fun w => implGood_any p w hp
  have cp := fun w => pull_any a b 4607182418800017408 r p w ha hb (by decide) hr hp
  clear ha hb hr hp
  unfold gainV gainOk
  generalize askB a b 4607182418800017408 r = ask at *
  cases ask
  · clear cg cp
    go_enter Try.func15, Try.ntmps15
    go_upto_region 2 with fail
    have B0 := box_new w a b 4607182418800017408 r 48
    have L0 : Below w.heap.size w (w.alloc (four a b 4607182418800017408 r 48)) := (Below.refl _ _).alloc (Nat.le_refl _) _
    generalize w.alloc (four a b 4607182418800017408 r 48) = w0 at *
    have B0' := B0
    obtain ⟨b0, p0, p1, p2, p3, -, -, -, -⟩ := B0'
    go_wp2_with fail
    refine (ci w0).mono ?_
    rintro e w1 ⟨rfl, hb1⟩
    have B1 := B0.on hb1
    have L1 := L0.trans (hb1.mono L0.size)
    clear ci B0 L0 b0 p0 p1 p2 p3 hb1
    go_wp2
    go_ret2
    exact ⟨rfl, L1⟩
  generalize goodB p = gp at *
  cases gp
  · clear cp
    go_enter Try.func15, Try.ntmps15
    go_upto_region 2 with fail
    have B0 := box_new w a b 4607182418800017408 r 48
    have L0 : Below w.heap.size w (w.alloc (four a b 4607182418800017408 r 48)) := (Below.refl _ _).alloc (Nat.le_refl _) _
    generalize w.alloc (four a b 4607182418800017408 r 48) = w0 at *
    have B0' := B0
    obtain ⟨b0, p0, p1, p2, p3, -, -, -, -⟩ := B0'
    go_wp2_with fail
    refine (ci w0).mono ?_
    rintro e w1 ⟨rfl, hb1⟩
    have B1 := B0.on hb1
    have L1 := L0.trans (hb1.mono L0.size)
    clear ci B0 L0 b0 p0 p1 p2 p3 hb1
    obtain ⟨b0, p0, p1, p2, p3, -, -, -, -⟩ := B1
    go_wp2_with (first | (go_at_call 27; with_reducible refine (cg _).mono ?_; rintro e w' ⟨rfl, hw'⟩; have hs := hw'.symm; clear hw'; subst hs))
    go_ret2
    exact ⟨rfl, L1⟩
  simp only [Bool.and_self, if_true, Bool.true_and]
  cases f3 : toldOk (dO b r p) with
  | false =>
    rw [(gain_none f3).1, (gain_none f3).2]
    simp only [f3] at cp
    clear f3
    go_enter Try.func15, Try.ntmps15
    go_upto_region 2 with fail
    have B0 := box_new w a b 4607182418800017408 r 48
    have L0 : Below w.heap.size w (w.alloc (four a b 4607182418800017408 r 48)) := (Below.refl _ _).alloc (Nat.le_refl _) _
    generalize w.alloc (four a b 4607182418800017408 r 48) = w0 at *
    have B0' := B0
    obtain ⟨b0, p0, p1, p2, p3, -, -, -, -⟩ := B0'
    go_wp2_with fail
    refine (ci w0).mono ?_
    rintro e w1 ⟨rfl, hb1⟩
    have B1 := B0.on hb1
    have L1 := L0.trans (hb1.mono L0.size)
    clear ci B0 L0 b0 p0 p1 p2 p3 hb1
    have B1' := B1
    obtain ⟨b0, p0, p1, p2, p3, -, -, -, -⟩ := B1'
    go_wp2_with (first | (go_at_call 27; with_reducible refine (cg _).mono ?_; rintro e w' ⟨rfl, hw'⟩; have hs := hw'.symm; clear hw'; subst hs))
    refine (cp w1).mono ?_
    rintro e w2 ⟨vn, vd, rfl, en, ed, hb2⟩
    have L2 := L1.trans (hb2.mono L1.size)
    clear cp B1 L1 b0 p0 p1 p2 p3 hb2
    go_wp2
    go_ret2
    exact ⟨rfl, L2⟩
  | true =>
    rw [← (gain_some f3).1, ← (gain_some f3).2]
    simp only [f3] at cp
    clear f3
    go_enter Try.func15, Try.ntmps15
    go_upto_region 2 with fail
    have B0 := box_new w a b 4607182418800017408 r 48
    have L0 : Below w.heap.size w (w.alloc (four a b 4607182418800017408 r 48)) := (Below.refl _ _).alloc (Nat.le_refl _) _
    generalize w.alloc (four a b 4607182418800017408 r 48) = w0 at *
    have B0' := B0
    obtain ⟨b0, p0, p1, p2, p3, -, -, -, -⟩ := B0'
    go_wp2_with fail
    refine (ci w0).mono ?_
    rintro e w1 ⟨rfl, hb1⟩
    have B1 := B0.on hb1
    have L1 := L0.trans (hb1.mono L0.size)
    clear ci B0 L0 b0 p0 p1 p2 p3 hb1
    have B1' := B1
    obtain ⟨b0, p0, p1, p2, p3, -, -, -, -⟩ := B1'
    go_wp2_with (first | (go_at_call 27; with_reducible refine (cg _).mono ?_; rintro e w' ⟨rfl, hw'⟩; have hs := hw'.symm; clear hw'; subst hs))
    refine (cp w1).mono ?_
    rintro e w2 ⟨vn, vd, rfl, en, ed, hb2⟩
    have L2 := L1.trans (hb2.mono L1.size)
    clear cp B1 L1 b0 p0 p1 p2 p3 hb2
    obtain ⟨v3, w3, k3, r3, m3⟩ := run_rep (P := Try.prog) .quo (by simp) en ed 23 w2
    have e3 : Rep (yP a b r p) v3 := r3
    have L3 := below_drew L2 m3
    clear m3 r3 L2 en ed
    have c3 := fun w => finite_any v3 w e3.1
    rw [(told_rep e3).1, (told_rep e3).2] at c3
    clear e3
    go_wp2_with (first | (go_at_call 28; with_reducible refine (c3 _).mono ?_; rintro e w' ⟨rfl, hw'⟩; have hs := hw'.symm; clear hw'; subst hs))
    go_ret2
    exact ⟨rfl, L3⟩

set_option maxHeartbeats 1000000 in
theorem gainLaw (a b r p : Nat) (w : World) (ha : a < 18446744073709551616) (hb : b < 18446744073709551616) (hr : r < 18446744073709551616) (hp : p < 18446744073709551616) :
    Calls Try.prog 5 #[.float .f64 a, .float .f64 b, .float .f64 r, .float .f64 p] w fun e w' => e = .returned (.bool true) ∧ Below w.heap.size w w' := by
  have c1 := gainS_any a b r p w ha hb hr hp
  have c2 := fun w => gainI_any a b r p w ha hb hr hp
  have c3 := fun w => same_any (gainV a b r p) w (gainV_lt a b r p)
  clear ha hb hr hp
  generalize gainV a b r p = gv at *
  generalize gainOk a b r p = gk at *
  go_enter Try.func5, Try.ntmps5
  go_wp2_with fail
  refine c1.mono ?_
  rintro e w1 ⟨rfl, m1⟩
  have L1 := below_drew (Below.refl w.heap.size w) m1
  clear m1 c1
  go_wp2_with fail
  refine (c2 w1).mono ?_
  rintro e w2 ⟨rfl, h2⟩
  have L2 := L1.trans (h2.mono L1.size)
  clear c2 L1 h2
  cases gk
  · go_wp2_with (first | (go_at_call 13; with_reducible refine (c3 _).mono ?_; rintro e w' ⟨rfl, hw'⟩; have hs := hw'.symm; clear hw'; subst hs))
    go_ret
    exact ⟨rfl, L2⟩
  · go_wp2_with (first | (go_at_call 13; with_reducible refine (c3 _).mono ?_; rintro e w' ⟨rfl, hw'⟩; have hs := hw'.symm; clear hw'; subst hs))
    go_ret
    exact ⟨rfl, L2⟩
end Go.Proofs.Ytlmbbolhcbccdaa
