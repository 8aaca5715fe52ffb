/- spec.l15Reals and spec.l15Round. -/
import Derived.Test.YtlmbbolhcbccdaaCoMath
import Derived.Test.YtlmbbolhcbccdaaFlFin
namespace Go.Proofs.Ytlmbbolhcbccdaa
open Go.RowKit

theorem pos_ord (x : Nat) : (FloatKind.f64.format.order x 0 == some .gt) = posB x := rfl

set_option maxHeartbeats 1000000 in
theorem askS_any (a b q r : Nat) (w : World) (ha : a < 18446744073709551616) (hb : b < 18446744073709551616) (hq : q < 18446744073709551616) (hr : r < 18446744073709551616) :
    Calls Try.prog 25 #[.float .f64 a, .float .f64 b, .float .f64 q, .float .f64 r] w fun e w' => e = .returned (.bool (askB a b q r)) ∧ w' = w := by
  have ca := fun w => specGood_any a w ha
  have cb := fun w => specGood_any b w hb
  have cq := fun w => specGood_any q w hq
  have cr := fun w => specGood_any r w hr
  have hz := zero_ord_ne b
  have h1 := pos_ord q
  have h2 := pos_ord r
  unfold askB g4
  generalize goodB a = ga at *
  generalize goodB b = gb at *
  generalize goodB q = gq at *
  generalize goodB r = gr at *
  generalize zeroB b = zb at *
  generalize posB q = pq at *
  generalize posB r = pr at *
  clear ha hb hq hr
  cases ga
  · go_enter Try.func25, Try.ntmps25
    go_wp2_with (first | (go_at_call 32; with_reducible refine (ca _).mono ?_; rintro e w' ⟨rfl, hw'⟩; have hs := hw'.symm; clear hw'; subst hs) | (go_at_call 32; with_reducible refine (cb _).mono ?_; rintro e w' ⟨rfl, hw'⟩; have hs := hw'.symm; clear hw'; subst hs) | (go_at_call 32; with_reducible refine (cq _).mono ?_; rintro e w' ⟨rfl, hw'⟩; have hs := hw'.symm; clear hw'; subst hs) | (go_at_call 32; with_reducible refine (cr _).mono ?_; rintro e w' ⟨rfl, hw'⟩; have hs := hw'.symm; clear hw'; subst hs))
    go_ret
    exact ⟨rfl, rfl⟩
  cases gb
  · go_enter Try.func25, Try.ntmps25
    go_wp2_with (first | (go_at_call 32; with_reducible refine (ca _).mono ?_; rintro e w' ⟨rfl, hw'⟩; have hs := hw'.symm; clear hw'; subst hs) | (go_at_call 32; with_reducible refine (cb _).mono ?_; rintro e w' ⟨rfl, hw'⟩; have hs := hw'.symm; clear hw'; subst hs) | (go_at_call 32; with_reducible refine (cq _).mono ?_; rintro e w' ⟨rfl, hw'⟩; have hs := hw'.symm; clear hw'; subst hs) | (go_at_call 32; with_reducible refine (cr _).mono ?_; rintro e w' ⟨rfl, hw'⟩; have hs := hw'.symm; clear hw'; subst hs))
    go_ret
    exact ⟨rfl, rfl⟩
  cases gq
  · go_enter Try.func25, Try.ntmps25
    go_wp2_with (first | (go_at_call 32; with_reducible refine (ca _).mono ?_; rintro e w' ⟨rfl, hw'⟩; have hs := hw'.symm; clear hw'; subst hs) | (go_at_call 32; with_reducible refine (cb _).mono ?_; rintro e w' ⟨rfl, hw'⟩; have hs := hw'.symm; clear hw'; subst hs) | (go_at_call 32; with_reducible refine (cq _).mono ?_; rintro e w' ⟨rfl, hw'⟩; have hs := hw'.symm; clear hw'; subst hs) | (go_at_call 32; with_reducible refine (cr _).mono ?_; rintro e w' ⟨rfl, hw'⟩; have hs := hw'.symm; clear hw'; subst hs))
    go_ret
    exact ⟨rfl, rfl⟩
  cases gr
  · go_enter Try.func25, Try.ntmps25
    go_wp2_with (first | (go_at_call 32; with_reducible refine (ca _).mono ?_; rintro e w' ⟨rfl, hw'⟩; have hs := hw'.symm; clear hw'; subst hs) | (go_at_call 32; with_reducible refine (cb _).mono ?_; rintro e w' ⟨rfl, hw'⟩; have hs := hw'.symm; clear hw'; subst hs) | (go_at_call 32; with_reducible refine (cq _).mono ?_; rintro e w' ⟨rfl, hw'⟩; have hs := hw'.symm; clear hw'; subst hs) | (go_at_call 32; with_reducible refine (cr _).mono ?_; rintro e w' ⟨rfl, hw'⟩; have hs := hw'.symm; clear hw'; subst hs))
    go_ret
    exact ⟨rfl, rfl⟩
  cases zb
  rotate_left
  · go_enter Try.func25, Try.ntmps25
    go_wp2_with (first | (go_at_call 32; with_reducible refine (ca _).mono ?_; rintro e w' ⟨rfl, hw'⟩; have hs := hw'.symm; clear hw'; subst hs) | (go_at_call 32; with_reducible refine (cb _).mono ?_; rintro e w' ⟨rfl, hw'⟩; have hs := hw'.symm; clear hw'; subst hs) | (go_at_call 32; with_reducible refine (cq _).mono ?_; rintro e w' ⟨rfl, hw'⟩; have hs := hw'.symm; clear hw'; subst hs) | (go_at_call 32; with_reducible refine (cr _).mono ?_; rintro e w' ⟨rfl, hw'⟩; have hs := hw'.symm; clear hw'; subst hs))
    go_ret
    exact ⟨rfl, rfl⟩
  cases pq
  · go_enter Try.func25, Try.ntmps25
    go_wp2_with (first | (go_at_call 32; with_reducible refine (ca _).mono ?_; rintro e w' ⟨rfl, hw'⟩; have hs := hw'.symm; clear hw'; subst hs) | (go_at_call 32; with_reducible refine (cb _).mono ?_; rintro e w' ⟨rfl, hw'⟩; have hs := hw'.symm; clear hw'; subst hs) | (go_at_call 32; with_reducible refine (cq _).mono ?_; rintro e w' ⟨rfl, hw'⟩; have hs := hw'.symm; clear hw'; subst hs) | (go_at_call 32; with_reducible refine (cr _).mono ?_; rintro e w' ⟨rfl, hw'⟩; have hs := hw'.symm; clear hw'; subst hs))
    go_ret
    exact ⟨rfl, rfl⟩
  cases pr
  · go_enter Try.func25, Try.ntmps25
    go_wp2_with (first | (go_at_call 32; with_reducible refine (ca _).mono ?_; rintro e w' ⟨rfl, hw'⟩; have hs := hw'.symm; clear hw'; subst hs) | (go_at_call 32; with_reducible refine (cb _).mono ?_; rintro e w' ⟨rfl, hw'⟩; have hs := hw'.symm; clear hw'; subst hs) | (go_at_call 32; with_reducible refine (cq _).mono ?_; rintro e w' ⟨rfl, hw'⟩; have hs := hw'.symm; clear hw'; subst hs) | (go_at_call 32; with_reducible refine (cr _).mono ?_; rintro e w' ⟨rfl, hw'⟩; have hs := hw'.symm; clear hw'; subst hs))
    go_ret
    exact ⟨rfl, rfl⟩
  go_enter Try.func25, Try.ntmps25
  go_wp2_with (first | (go_at_call 32; with_reducible refine (ca _).mono ?_; rintro e w' ⟨rfl, hw'⟩; have hs := hw'.symm; clear hw'; subst hs) | (go_at_call 32; with_reducible refine (cb _).mono ?_; rintro e w' ⟨rfl, hw'⟩; have hs := hw'.symm; clear hw'; subst hs) | (go_at_call 32; with_reducible refine (cq _).mono ?_; rintro e w' ⟨rfl, hw'⟩; have hs := hw'.symm; clear hw'; subst hs) | (go_at_call 32; with_reducible refine (cr _).mono ?_; rintro e w' ⟨rfl, hw'⟩; have hs := hw'.symm; clear hw'; subst hs))
  go_ret
  exact ⟨rfl, rfl⟩

theorem fin_rep {o : Option Nat} {v : Nat} (h : Rep o v) : (!nanB v && !infB v) = toldOk o := by
  rw [← (told_rep h).2]; unfold toldT; rw [Bool.not_or]
theorem zero_rep {o : Option Nat} {v : Nat} (h : Rep o v) (hf : toldOk o = true) : (FloatKind.f64.format.order v 0 == some .eq) = noDo o := by
  rw [← noD_rep h]
  have e := fin_rep h
  rw [hf] at e
  unfold noD
  cases h1 : nanB v <;> cases h2 : infB v <;> simp_all
theorem more_drew {w w1 w2 : World} (h : ∃ n, w1 = w.drewN n) (k : ∃ n, w2 = w1.drewN n) : ∃ n, w2 = w.drewN n := by
  obtain ⟨n, rfl⟩ := h
  obtain ⟨m, rfl⟩ := k
  exact ⟨n + m, by simp only [World.drewN_drewN]⟩

set_option maxHeartbeats 2000000 in
theorem roundS_any (a b q r p : Nat) (w : World) (ha : a < 18446744073709551616) (hb : b < 18446744073709551616) (hq : q < 18446744073709551616) (hr : r < 18446744073709551616) (hp : p < 18446744073709551616) :
    Calls Try.prog 26 #[.float .f64 a, .float .f64 b, .float .f64 q, .float .f64 r, .float .f64 p] w fun e w' => e = .returned (.tuple #[.float .f64 (rdV a b q r p), .bool (rdOk a b q r p)]) ∧ ∃ n, w' = w.drewN n := by
  have hra := rep_of ha
  have hrb := rep_of hb
  have hrq := rep_of hq
  have hrr := rep_of hr
  have hrp := rep_of hp
  clear ha hb hq hr hp
  obtain ⟨v1, w1, k1, r1, m1⟩ := run_rep (P := Try.prog) .mul (by simp) hra hrb 23 w
  obtain ⟨v2, w2, k2, r2, m2⟩ := run_rep (P := Try.prog) .mul (by simp) r1 hrp 23 w1
  obtain ⟨v3, w3, k3, r3, m3⟩ := run_rep (P := Try.prog) .mul (by simp) hrb hrb 23 w2
  obtain ⟨v4, w4, k4, r4, m4⟩ := run_rep (P := Try.prog) .mul (by simp) r3 hrp 23 w3
  obtain ⟨v5, w5, k5, r5, m5⟩ := run_rep (P := Try.prog) .add (by simp) hrr r4 23 w4
  obtain ⟨v6, w6, k6, r6, m6⟩ := run_rep (P := Try.prog) .mul (by simp) hra hra 23 w5
  obtain ⟨v7, w7, k7, r7, m7⟩ := run_rep (P := Try.prog) .mul (by simp) r6 hrp 23 w6
  obtain ⟨v8, w8, k8, r8, m8⟩ := run_rep (P := Try.prog) .add (by simp) hrq r7 23 w7
  obtain ⟨v9, w9, k9, r9, m9⟩ := run_rep (P := Try.prog) .mul (by simp) r2 r2 23 w8
  obtain ⟨v10, w10, k10, r10, m10⟩ := run_rep (P := Try.prog) .quo (by simp) r9 r5 23 w9
  obtain ⟨v11, w11, k11, r11, m11⟩ := run_rep (P := Try.prog) .sub (by simp) r8 r10 23 w10
  obtain ⟨v12, w12, k12, r12, m12⟩ := run_rep (P := Try.prog) .mul (by simp) r2 r2 23 w11
  clear hra hrb hrq hrr hrp r1 r3 r4 r6 r7 r8 r10
  have M5 := more_drew (more_drew (more_drew (more_drew m1 m2) m3) m4) m5
  have M11 := more_drew (more_drew (more_drew (more_drew (more_drew (more_drew M5 m6) m7) m8) m9) m10) m11
  have M12 := more_drew M11 m12
  clear m1 m2 m3 m4 m5 m6 m7 m8 m9 m10 m11 m12
  have q2 : Rep (nO a b p) v2 := r2
  have q5 : Rep (dO b r p) v5 := r5
  have q11 : Rep (xO a b q r p) v11 := r11
  have q12 : Rep (nnO a b p) v12 := r12
  clear r2 r5 r9 r11 r12
  have c2 := fun w => l2Finite_any v2 w q2.1
  have c5 := fun w => l2Finite_any v5 w q5.1
  have c11 := fun w => l2Finite_any v11 w q11.1
  have c12 := fun w => l2Finite_any v12 w q12.1
  have c13 := fun w => l2Plain_any v11 w
  rw [fin_rep q2] at c2
  rw [fin_rep q5] at c5
  rw [fin_rep q11] at c11
  rw [fin_rep q12] at c12
  cases f5 : toldOk (dO b r p) with
  | false =>
    rw [(round_none f5).1, (round_none f5).2]
    rw [f5] at c5
    cases hz : (FloatKind.f64.format.order v5 0 == some .eq)
    · clear q2 q5 q11 q12
      go_enter Try.func26, Try.ntmps26
      go_wp2_with (first | (go_at_call 33; with_reducible refine (c5 _).mono ?_; rintro e w' ⟨rfl, hw'⟩; have hs := hw'.symm; clear hw'; subst hs) | (go_at_call 33; with_reducible refine (c2 _).mono ?_; rintro e w' ⟨rfl, hw'⟩; have hs := hw'.symm; clear hw'; subst hs) | (go_at_call 33; with_reducible refine (c11 _).mono ?_; rintro e w' ⟨rfl, hw'⟩; have hs := hw'.symm; clear hw'; subst hs) | (go_at_call 33; with_reducible refine (c12 _).mono ?_; rintro e w' ⟨rfl, hw'⟩; have hs := hw'.symm; clear hw'; subst hs) | (go_at_call 31; with_reducible refine (c13 _).mono ?_; rintro e w' ⟨rfl, hw'⟩; have hs := hw'.symm; clear hw'; subst hs))
      go_ret2
      exact ⟨rfl, M5⟩
    · clear q2 q5 q11 q12
      go_enter Try.func26, Try.ntmps26
      go_wp2_with (first | (go_at_call 33; with_reducible refine (c5 _).mono ?_; rintro e w' ⟨rfl, hw'⟩; have hs := hw'.symm; clear hw'; subst hs) | (go_at_call 33; with_reducible refine (c2 _).mono ?_; rintro e w' ⟨rfl, hw'⟩; have hs := hw'.symm; clear hw'; subst hs) | (go_at_call 33; with_reducible refine (c11 _).mono ?_; rintro e w' ⟨rfl, hw'⟩; have hs := hw'.symm; clear hw'; subst hs) | (go_at_call 33; with_reducible refine (c12 _).mono ?_; rintro e w' ⟨rfl, hw'⟩; have hs := hw'.symm; clear hw'; subst hs) | (go_at_call 31; with_reducible refine (c13 _).mono ?_; rintro e w' ⟨rfl, hw'⟩; have hs := hw'.symm; clear hw'; subst hs))
      go_ret2
      exact ⟨rfl, M5⟩
  | true =>
    rw [f5] at c5
    have hz := zero_rep q5 f5
    have ez : dOk b r p = !noDo (dO b r p) := rfl
    cases f6 : noDo (dO b r p) with
    | true =>
      have e : rdOk a b q r p = false := by unfold rdOk; rw [ez, f6]; rfl
      have e2 : rdV a b q r p = 0 := by unfold rdV; rw [e]; rfl
      rw [e, e2]; rw [f6] at hz
      clear e e2 ez f6
      clear q2 q5 q11 q12
      go_enter Try.func26, Try.ntmps26
      go_wp2_with (first | (go_at_call 33; with_reducible refine (c5 _).mono ?_; rintro e w' ⟨rfl, hw'⟩; have hs := hw'.symm; clear hw'; subst hs) | (go_at_call 33; with_reducible refine (c2 _).mono ?_; rintro e w' ⟨rfl, hw'⟩; have hs := hw'.symm; clear hw'; subst hs) | (go_at_call 33; with_reducible refine (c11 _).mono ?_; rintro e w' ⟨rfl, hw'⟩; have hs := hw'.symm; clear hw'; subst hs) | (go_at_call 33; with_reducible refine (c12 _).mono ?_; rintro e w' ⟨rfl, hw'⟩; have hs := hw'.symm; clear hw'; subst hs) | (go_at_call 31; with_reducible refine (c13 _).mono ?_; rintro e w' ⟨rfl, hw'⟩; have hs := hw'.symm; clear hw'; subst hs))
      go_ret2
      exact ⟨rfl, M5⟩
    | false =>
      rw [f6] at hz ez
      cases f2 : toldOk (nO a b p) with
      | false =>
        have e : rdOk a b q r p = false := by unfold rdOk; rw [f2]; simp
        have e2 : rdV a b q r p = 0 := by unfold rdV; rw [e]; rfl
        rw [e, e2]; rw [f2] at c2
        clear e e2 ez f6 f2
        clear q2 q5 q11 q12
        go_enter Try.func26, Try.ntmps26
        go_wp2_with (first | (go_at_call 33; with_reducible refine (c5 _).mono ?_; rintro e w' ⟨rfl, hw'⟩; have hs := hw'.symm; clear hw'; subst hs) | (go_at_call 33; with_reducible refine (c2 _).mono ?_; rintro e w' ⟨rfl, hw'⟩; have hs := hw'.symm; clear hw'; subst hs) | (go_at_call 33; with_reducible refine (c11 _).mono ?_; rintro e w' ⟨rfl, hw'⟩; have hs := hw'.symm; clear hw'; subst hs) | (go_at_call 33; with_reducible refine (c12 _).mono ?_; rintro e w' ⟨rfl, hw'⟩; have hs := hw'.symm; clear hw'; subst hs) | (go_at_call 31; with_reducible refine (c13 _).mono ?_; rintro e w' ⟨rfl, hw'⟩; have hs := hw'.symm; clear hw'; subst hs))
        go_ret2
        exact ⟨rfl, M5⟩
      | true =>
        rw [f2] at c2
        cases f11 : toldOk (xO a b q r p) with
        | false =>
          have e : rdOk a b q r p = false := by unfold rdOk; rw [f11]; simp
          have e2 : rdV a b q r p = 0 := by unfold rdV; rw [e]; rfl
          rw [e, e2]; rw [f11] at c11
          clear e e2 ez f6 f2 f11
          clear q2 q5 q11 q12
          go_enter Try.func26, Try.ntmps26
          go_wp2_with (first | (go_at_call 33; with_reducible refine (c5 _).mono ?_; rintro e w' ⟨rfl, hw'⟩; have hs := hw'.symm; clear hw'; subst hs) | (go_at_call 33; with_reducible refine (c2 _).mono ?_; rintro e w' ⟨rfl, hw'⟩; have hs := hw'.symm; clear hw'; subst hs) | (go_at_call 33; with_reducible refine (c11 _).mono ?_; rintro e w' ⟨rfl, hw'⟩; have hs := hw'.symm; clear hw'; subst hs) | (go_at_call 33; with_reducible refine (c12 _).mono ?_; rintro e w' ⟨rfl, hw'⟩; have hs := hw'.symm; clear hw'; subst hs) | (go_at_call 31; with_reducible refine (c13 _).mono ?_; rintro e w' ⟨rfl, hw'⟩; have hs := hw'.symm; clear hw'; subst hs))
          go_ret2
          exact ⟨rfl, M11⟩
        | true =>
          rw [f11] at c11
          cases f12 : toldOk (nnO a b p) with
          | false =>
            have e : rdOk a b q r p = false := by unfold rdOk; rw [f12]; simp
            have e2 : rdV a b q r p = 0 := by unfold rdV; rw [e]; rfl
            rw [e, e2]; rw [f12] at c12
            clear e e2 ez f6 f2 f11 f12
            clear q2 q5 q11 q12
            go_enter Try.func26, Try.ntmps26
            go_wp2_with (first | (go_at_call 33; with_reducible refine (c5 _).mono ?_; rintro e w' ⟨rfl, hw'⟩; have hs := hw'.symm; clear hw'; subst hs) | (go_at_call 33; with_reducible refine (c2 _).mono ?_; rintro e w' ⟨rfl, hw'⟩; have hs := hw'.symm; clear hw'; subst hs) | (go_at_call 33; with_reducible refine (c11 _).mono ?_; rintro e w' ⟨rfl, hw'⟩; have hs := hw'.symm; clear hw'; subst hs) | (go_at_call 33; with_reducible refine (c12 _).mono ?_; rintro e w' ⟨rfl, hw'⟩; have hs := hw'.symm; clear hw'; subst hs) | (go_at_call 31; with_reducible refine (c13 _).mono ?_; rintro e w' ⟨rfl, hw'⟩; have hs := hw'.symm; clear hw'; subst hs))
            go_ret2
            exact ⟨rfl, M12⟩
          | true =>
            have e : rdOk a b q r p = true := by unfold rdOk; rw [ez, f2, f11, f12]; rfl
            have e2 : rdV a b q r p = plain v11 := by
              unfold rdV; rw [e, if_pos rfl, ← (told_rep q11).1]
              have := fin_rep q11
              rw [f11] at this
              unfold toldV
              cases h1 : nanB v11 <;> cases h2 : infB v11 <;> simp_all
            rw [e, e2]; rw [f12] at c12
            clear e e2 ez f6 f2 f11 f12
            clear q2 q5 q11 q12
            go_enter Try.func26, Try.ntmps26
            go_wp2_with (first | (go_at_call 33; with_reducible refine (c5 _).mono ?_; rintro e w' ⟨rfl, hw'⟩; have hs := hw'.symm; clear hw'; subst hs) | (go_at_call 33; with_reducible refine (c2 _).mono ?_; rintro e w' ⟨rfl, hw'⟩; have hs := hw'.symm; clear hw'; subst hs) | (go_at_call 33; with_reducible refine (c11 _).mono ?_; rintro e w' ⟨rfl, hw'⟩; have hs := hw'.symm; clear hw'; subst hs) | (go_at_call 33; with_reducible refine (c12 _).mono ?_; rintro e w' ⟨rfl, hw'⟩; have hs := hw'.symm; clear hw'; subst hs) | (go_at_call 31; with_reducible refine (c13 _).mono ?_; rintro e w' ⟨rfl, hw'⟩; have hs := hw'.symm; clear hw'; subst hs))
            go_ret2
            exact ⟨rfl, M12⟩
end Go.Proofs.Ytlmbbolhcbccdaa
