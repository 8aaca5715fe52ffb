/- impl.MissReal, spec.MissReal, the law FnExactMissReal. -/
import Derived.Test.YtlmbbolhcbccdaaCoRoundI
namespace Go.Proofs.Ytlmbbolhcbccdaa
open Go.RowKit

def lessO (a b q r p : Nat) : Option Nat := ob .sub (some (rdV a b q r p)) (some p)
def missOk (a b q r p : Nat) : Bool := if askB a b q r && goodB p && rdOk a b q r p then toldOk (lessO a b q r p) else false
def missV (a b q r p : Nat) : Nat := if askB a b q r && goodB p && rdOk a b q r p then told (lessO a b q r p) else 0
theorem missV_lt (a b q r p : Nat) : missV a b q r p < 18446744073709551616 := by
  unfold missV; split
  · exact told_fits _ fun v h => ob_fits h
  · decide

set_option maxHeartbeats 2000000 in
theorem missS_any (a b q r p : Nat) (w : World) (ha : a < 18446744073709551616) (hb : b < 18446744073709551616) (hq : q < 18446744073709551616) (hr : r < 18446744073709551616) (hp : p < 18446744073709551616) :
    Calls Try.prog 16 #[.float .f64 a, .float .f64 b, .float .f64 q, .float .f64 r, .float .f64 p] w fun e w' => e = .returned (.tuple #[.float .f64 (missV a b q r p), .bool (missOk a b q r p)]) ∧ ∃ n, w' = w.drewN n := by
  have ci := fun w => askS_any a b q r w ha hb hq hr
  have cg := fun w => specGood_any p w hp
  have cr := fun w => roundS_any a b q r p w ha hb hq hr hp
  have hrd := rep_of (rdV_lt a b q r p)
  have hrp := rep_of hp
  clear ha hb hq hr hp
  unfold missV missOk lessO
  generalize askB a b q r = ask at *
  cases ask
  · clear cg cr
    go_enter Try.func16, Try.ntmps16
    go_wp2_with (first | (go_at_call 25; with_reducible refine (ci _).mono ?_; rintro e w' ⟨rfl, hw'⟩; have hs := hw'.symm; clear hw'; subst hs) | (go_at_call 32; with_reducible refine (cg _).mono ?_; rintro e w' ⟨rfl, hw'⟩; have hs := hw'.symm; clear hw'; subst hs))
    go_ret2
    exact ⟨rfl, 0, rfl⟩
  generalize goodB p = gp at *
  cases gp
  · clear cr
    go_enter Try.func16, Try.ntmps16
    go_wp2_with (first | (go_at_call 25; with_reducible refine (ci _).mono ?_; rintro e w' ⟨rfl, hw'⟩; have hs := hw'.symm; clear hw'; subst hs) | (go_at_call 32; with_reducible refine (cg _).mono ?_; rintro e w' ⟨rfl, hw'⟩; have hs := hw'.symm; clear hw'; subst hs))
    go_ret2
    exact ⟨rfl, 0, rfl⟩
  generalize rdV a b q r p = rv at *
  generalize rdOk a b q r p = rk at *
  simp only [Bool.and_self, Bool.true_and]
  cases rk
  · skip
    go_enter Try.func16, Try.ntmps16
    go_wp2_with (first | (go_at_call 25; with_reducible refine (ci _).mono ?_; rintro e w' ⟨rfl, hw'⟩; have hs := hw'.symm; clear hw'; subst hs) | (go_at_call 32; with_reducible refine (cg _).mono ?_; rintro e w' ⟨rfl, hw'⟩; have hs := hw'.symm; clear hw'; subst hs))
    refine (cr w).mono ?_
    rintro e w2 ⟨rfl, h2⟩
    clear cr
    go_wp2
    go_ret2
    exact ⟨rfl, h2⟩
  · simp only [if_true]
    go_enter Try.func16, Try.ntmps16
    go_wp2_with (first | (go_at_call 25; with_reducible refine (ci _).mono ?_; rintro e w' ⟨rfl, hw'⟩; have hs := hw'.symm; clear hw'; subst hs) | (go_at_call 32; with_reducible refine (cg _).mono ?_; rintro e w' ⟨rfl, hw'⟩; have hs := hw'.symm; clear hw'; subst hs))
    refine (cr w).mono ?_
    rintro e w2 ⟨rfl, h2⟩
    clear cr
    obtain ⟨v3, w3, k3, r3, m3⟩ := run_rep (P := Try.prog) .sub (by simp) hrd hrp 23 w2
    have L3 := more_drew h2 m3
    clear m3 h2 hrd hrp
    have c3 := fun w => l2Told_any v3 w r3.1
    rw [(told_rep r3).1, (told_rep r3).2] at c3
    clear r3
    go_wp2_with (first | (go_at_call 34; with_reducible refine (c3 _).mono ?_; rintro e w' ⟨rfl, hw'⟩; have hs := hw'.symm; clear hw'; subst hs))
    go_ret2
    exact ⟨rfl, L3⟩
set_option maxHeartbeats 2000000 in
theorem missI_any (a b q r p : Nat) (w : World) (ha : a < 18446744073709551616) (hb : b < 18446744073709551616) (hq : q < 18446744073709551616) (hr : r < 18446744073709551616) (hp : p < 18446744073709551616) :
    Calls Try.prog 10 #[.float .f64 a, .float .f64 b, .float .f64 q, .float .f64 r, .float .f64 p] w fun e w' => e = .returned (.tuple #[.float .f64 (missV a b q r p), .bool (missOk a b q r p)]) ∧ Below w.heap.size w w' := by
  have ci := fun w => askI_any a b q r w ha hb hq hr
  have cg := fun w => implGood_any p w hp
  have cr := fun w => roundI_any a b q r p w ha hb hq hr hp
  have hrd := rep_of (rdV_lt a b q r p)
  have hrp := rep_of hp
  clear ha hb hq hr hp
  unfold missV missOk lessO
  generalize askB a b q r = ask at *
  cases ask
  · clear cg cr
    go_enter Try.func10, Try.ntmps10
    go_upto_region 2 with fail
    have B0 := box_new w a b q r 48
    have L0 : Below w.heap.size w (w.alloc (four a b q r 48)) := (Below.refl _ _).alloc (Nat.le_refl _) _
    generalize w.alloc (four a b q r 48) = w0 at *
    have B0' := B0
    obtain ⟨b0, p0, p1, p2, p3, -, -, -, -⟩ := B0'
    go_wp2_with fail
    refine (ci w0).mono ?_
    rintro e w1 ⟨rfl, hb1⟩
    have B1 := B0.on hb1
    have L1 := L0.trans (hb1.mono L0.size)
    clear ci B0 L0 b0 p0 p1 p2 p3 hb1
    go_wp2_with (first | (go_at_call 27; with_reducible refine (cg _).mono ?_; rintro e w' ⟨rfl, hw'⟩; have hs := hw'.symm; clear hw'; subst hs))
    go_ret2
    exact ⟨rfl, L1⟩
  generalize goodB p = gp at *
  cases gp
  · clear cr
    go_enter Try.func10, Try.ntmps10
    go_upto_region 2 with fail
    have B0 := box_new w a b q r 48
    have L0 : Below w.heap.size w (w.alloc (four a b q r 48)) := (Below.refl _ _).alloc (Nat.le_refl _) _
    generalize w.alloc (four a b q r 48) = w0 at *
    have B0' := B0
    obtain ⟨b0, p0, p1, p2, p3, -, -, -, -⟩ := B0'
    go_wp2_with fail
    refine (ci w0).mono ?_
    rintro e w1 ⟨rfl, hb1⟩
    have B1 := B0.on hb1
    have L1 := L0.trans (hb1.mono L0.size)
    clear ci B0 L0 b0 p0 p1 p2 p3 hb1
    have B1' := B1
    obtain ⟨b0, p0, p1, p2, p3, -, -, -, -⟩ := B1'
    go_wp2_with (first | (go_at_call 27; with_reducible refine (cg _).mono ?_; rintro e w' ⟨rfl, hw'⟩; have hs := hw'.symm; clear hw'; subst hs))
    go_ret2
    exact ⟨rfl, L1⟩
  generalize rdV a b q r p = rv at *
  generalize rdOk a b q r p = rk at *
  simp only [Bool.and_self, Bool.true_and]
  cases rk
  · skip
    go_enter Try.func10, Try.ntmps10
    go_upto_region 2 with fail
    have B0 := box_new w a b q r 48
    have L0 : Below w.heap.size w (w.alloc (four a b q r 48)) := (Below.refl _ _).alloc (Nat.le_refl _) _
    generalize w.alloc (four a b q r 48) = w0 at *
    have B0' := B0
    obtain ⟨b0, p0, p1, p2, p3, -, -, -, -⟩ := B0'
    go_wp2_with fail
    refine (ci w0).mono ?_
    rintro e w1 ⟨rfl, hb1⟩
    have B1 := B0.on hb1
    have L1 := L0.trans (hb1.mono L0.size)
    clear ci B0 L0 b0 p0 p1 p2 p3 hb1
    have B1' := B1
    obtain ⟨b0, p0, p1, p2, p3, -, -, -, -⟩ := B1'
    go_wp2_with (first | (go_at_call 27; with_reducible refine (cg _).mono ?_; rintro e w' ⟨rfl, hw'⟩; have hs := hw'.symm; clear hw'; subst hs))
    refine (cr w1).mono ?_
    rintro e w2 ⟨rfl, h2⟩
    have L2 := L1.trans (h2.mono L1.size)
    clear cr B1 L1 b0 p0 p1 p2 p3 h2
    go_wp2
    go_ret2
    exact ⟨rfl, L2⟩
  · simp only [if_true]
    go_enter Try.func10, Try.ntmps10
    go_upto_region 2 with fail
    have B0 := box_new w a b q r 48
    have L0 : Below w.heap.size w (w.alloc (four a b q r 48)) := (Below.refl _ _).alloc (Nat.le_refl _) _
    generalize w.alloc (four a b q r 48) = w0 at *
    have B0' := B0
    obtain ⟨b0, p0, p1, p2, p3, -, -, -, -⟩ := B0'
    go_wp2_with fail
    refine (ci w0).mono ?_
    rintro e w1 ⟨rfl, hb1⟩
    have B1 := B0.on hb1
    have L1 := L0.trans (hb1.mono L0.size)
    clear ci B0 L0 b0 p0 p1 p2 p3 hb1
    have B1' := B1
    obtain ⟨b0, p0, p1, p2, p3, -, -, -, -⟩ := B1'
    go_wp2_with (first | (go_at_call 27; with_reducible refine (cg _).mono ?_; rintro e w' ⟨rfl, hw'⟩; have hs := hw'.symm; clear hw'; subst hs))
    refine (cr w1).mono ?_
    rintro e w2 ⟨rfl, h2⟩
    have L2 := L1.trans (h2.mono L1.size)
    clear cr B1 L1 b0 p0 p1 p2 p3 h2
    obtain ⟨v3, w3, k3, r3, m3⟩ := run_rep (P := Try.prog) .sub (by simp) hrd hrp 23 w2
    have L3 := below_drew L2 m3
    clear m3 L2 hrd hrp
    have c3 := fun w => finite_any v3 w r3.1
    rw [(told_rep r3).1, (told_rep r3).2] at c3
    clear r3
    go_wp2_with (first | (go_at_call 28; with_reducible refine (c3 _).mono ?_; rintro e w' ⟨rfl, hw'⟩; have hs := hw'.symm; clear hw'; subst hs))
    go_ret2
    exact ⟨rfl, L3⟩

set_option maxHeartbeats 1000000 in
theorem missLaw (a b q r p : Nat) (w : World) (ha : a < 18446744073709551616) (hb : b < 18446744073709551616) (hq : q < 18446744073709551616) (hr : r < 18446744073709551616) (hp : p < 18446744073709551616) :
    Calls Try.prog 6 #[.float .f64 a, .float .f64 b, .float .f64 q, .float .f64 r, .float .f64 p] w fun e w' => e = .returned (.bool true) ∧ Below w.heap.size w w' := by
  have c1 := missS_any a b q r p w ha hb hq hr hp
  have c2 := fun w => missI_any a b q r p w ha hb hq hr hp
  have c3 := fun w => same_any (missV a b q r p) w (missV_lt a b q r p)
  clear ha hb hq hr hp
  generalize missV a b q r p = gv at *
  generalize missOk a b q r p = gk at *
  go_enter Try.func6, Try.ntmps6
  go_wp2_with fail
  refine c1.mono ?_
  rintro e w1 ⟨rfl, m1⟩
  have L1 := below_drew (Below.refl w.heap.size w) m1
  clear m1 c1
  go_wp2_with fail
  refine (c2 w1).mono ?_
  rintro e w2 ⟨rfl, h2⟩
  have L2 := L1.trans (h2.mono L1.size)
  clear c2 L1 h2
  cases gk
  · go_wp2_with (first | (go_at_call 13; with_reducible refine (c3 _).mono ?_; rintro e w' ⟨rfl, hw'⟩; have hs := hw'.symm; clear hw'; subst hs))
    go_ret
    exact ⟨rfl, L2⟩
  · go_wp2_with (first | (go_at_call 13; with_reducible refine (c3 _).mono ?_; rintro e w' ⟨rfl, hw'⟩; have hs := hw'.symm; clear hw'; subst hs))
    go_ret
    exact ⟨rfl, L2⟩
end Go.Proofs.Ytlmbbolhcbccdaa
